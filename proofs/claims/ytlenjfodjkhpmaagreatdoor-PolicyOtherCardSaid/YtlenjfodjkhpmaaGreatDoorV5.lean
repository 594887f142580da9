/- The landed policy: lines of words. Conditions: keys of at most 1,000 bytes, words of at most 1,000,000 together. -/
import Derived.Test.YtlenjfodjkhpmaaGreatDoorV1
import Derived.Test.YtlenjfodjkhpmaaGreatDoorGf
import Derived.Test.YtlenjfodjkhpmaaGreatDoorHc
import Derived.Test.YtlenjfodjkhpmaaGreatDoorJp
import Derived.Test.YtlenjfodjkhpmaaGreatDoorKq
import Derived.Deep.RegionLaw
import Derived.Maps.AppendAt
import Derived.Laws.OwnMore
namespace Go.Proofs.YtlenjfodjkhpmaaGreatDoor
set_option maxRecDepth 100000
open Go.Lib (hid)
open Go.RowKit
set_option linter.unusedVariables false
set_option linter.unusedSimpArgs false
attribute [local go_sem ↓] Go.wp_at_zero Go.wp_at_succ

section
variable {P : Program} {w : World}
theorem run_append_none14 (base : Nat) (t ty e : TypeId) (i : TypeInfo) (size c : Nat) (ht : P.underlying t = some (.slice e)) (hi : P.info? e = some i)
 (v : Value) (n : Nat) (xs : List Value) (hown : w.ownsRow base e size v n xs) :
 (Builtin.append_ #[t, t] ty #[v, .slice none 0 c]).run P w = .ok v w := by
 rcases hown.2 with ⟨rfl, rfl⟩ | ⟨g, cap, cur, rfl, _, _, hnc, _⟩
 ·simp [Builtin.append_, run_underlying ht, sizeOf, typeInfo, hi, Builtin.lenOf, Builtin.firstCells]
 ·simp [Builtin.append_, run_underlying ht, sizeOf, typeInfo, hi, Builtin.lenOf, Builtin.firstCells, hnc, storeCells]
theorem wp_app_r {o : Oper} {a : Act} {K : Act → World → Prop} {Q : Exit → Act → World → Prop} (s x : Operand) (t : TypeId)
 (ho : o.op = .call { callee := .builtin .append, args := #[s, x], argTypes := #[t, t] })
 (base : Nat) (e : TypeId) (i : TypeInfo) (z : Value) (size bytes : Nat) (ht : P.underlying t = some (.slice e)) (hi : P.info? e = some i) (hz : i.zero = some z)
 (hsize : i.size = size) (hby : i.bytes = bytes) (hzs : z.cells.size = size) (hsz : 0 < size)
 (v : Value) (n : Nat) (xs : List Value) (hs : a.eval s = v) (hown : w.ownsRow base e size v n xs)
 (p : Option Addr) (m c : Nat) (news : List Value) (hx : a.eval x = .slice p m c) (hl : news.length = m * size) (hnews : 0 < m → ∃ ad, p = some ad ∧ ∀ j u, news[j]? = some u → w.cell? (ad.add j) = some u) (h1 : ∀ u ∈ news, u.oneCell' = true)
 (h63 : n + m ≤ maxLen) (hbytes : (n + m) * bytes ≤ 140737488355328) (hbase : base ≤ w.heap.size)
 (h : ∀ v' w', w'.ownsRow base e size v' (n + m) (xs ++ news) → w.grownBy w' v.ownBlock → K (a.put o.dst v') w') : o.wp P a w K Q := by
 cases p with
 | none =>
  have hm : m = 0 := by
   rcases Nat.eq_zero_or_pos m with h0 | h0
   ·exact h0
   ·obtain ⟨ad, e, _⟩ := hnews h0; cases e
  subst hm
  have hn0 : news = [] := List.eq_nil_of_length_eq_zero (by rw [hl]; omega)
  subst hn0
  have hr := run_append_none14 (P := P) base t o.type e i size c ht hi v n xs hown
  unfold Oper.wp execOp
  simp only [ho, resolve, invoke, builtin, Sem.run_bind, Sem.run_pure, Result.andThen_ok, List.map_toArray, List.map_cons, List.map_nil, hs, hx, hr]
  exact h v w (by rw [List.append_nil]; exact hown) ⟨rfl, rfl, rfl, Nat.le_refl _, fun _ _ _ => rfl⟩
 | some ad =>
  have hnews2 : ∀ j u, news[j]? = some u → w.cell? (ad.add j) = some u := fun j u hu => by
   have : 0 < m := by
    rcases Nat.eq_zero_or_pos m with h0 | h0
    ·subst h0
     have : news = [] := List.eq_nil_of_length_eq_zero (by rw [hl]; omega)
     rw [this] at hu; simp at hu
    ·exact h0
   obtain ⟨ad', e, hc⟩ := hnews this
   injection e with e
   subst e
   exact hc j u hu
  obtain ⟨v', w', hr, h2, h3, _, _⟩ := run_append_own_at (P := P) w base t o.type e i z size bytes ht hi hz hsize hby hzs hsz v n xs hown ad m c news hl hnews2 h1 h63 hbytes hbase
  unfold Oper.wp execOp
  simp only [ho, resolve, invoke, builtin, Sem.run_bind, Sem.run_pure, Result.andThen_ok, List.map_toArray, List.map_cons, List.map_nil, hs, hx, hr]
  exact h v' w' h2 h3
theorem wpList_app_r {ops : Array Oper} {rest : List Oper} {o : Oper} {a : Act} {Q : Exit → Act → World → Prop} (hgd : o.guard = none) (s x : Operand) (t : TypeId)
 (ho : o.op = .call { callee := .builtin .append, args := #[s, x], argTypes := #[t, t] })
 (base : Nat) (e : TypeId) (i : TypeInfo) (z : Value) (size bytes : Nat) (ht : P.underlying t = some (.slice e)) (hi : P.info? e = some i) (hz : i.zero = some z)
 (hsize : i.size = size) (hby : i.bytes = bytes) (hzs : z.cells.size = size) (hsz : 0 < size)
 (v : Value) (n : Nat) (xs : List Value) (hs : a.eval s = v) (hown : w.ownsRow base e size v n xs)
 (p : Option Addr) (m c : Nat) (news : List Value) (hx : a.eval x = .slice p m c) (hl : news.length = m * size) (hnews : 0 < m → ∃ ad, p = some ad ∧ ∀ j u, news[j]? = some u → w.cell? (ad.add j) = some u) (h1 : ∀ u ∈ news, u.oneCell' = true)
 (h63 : n + m ≤ maxLen) (hbytes : (n + m) * bytes ≤ 140737488355328) (hbase : base ≤ w.heap.size)
 (h : ∀ v' w', w'.ownsRow base e size v' (n + m) (xs ++ news) → w.grownBy w' v.ownBlock → wpList P ops Q rest (a.put o.dst v') w') : wpList P ops Q (o :: rest) a w :=
 wpList_plain hgd fun _ hK => wp_app_r s x t ho base e i z size bytes ht hi hz hsize hby hzs hsz v n xs hs hown p m c news hx hl hnews h1 h63 hbytes hbase fun v' w' h2 h3 => hK _ _ (h v' w' h2 h3)
theorem step_app_r {ops : Array Oper} {o : Oper} {a : Act} {K : Act → World → Prop} {Q : Exit → Act → World → Prop} {E : Prop} (hgd : o.guard = none) (s x : Operand) (t : TypeId)
 (ho : o.op = .call { callee := .builtin .append, args := #[s, x], argTypes := #[t, t] })
 (base : Nat) (e : TypeId) (i : TypeInfo) (z : Value) (size bytes : Nat) (ht : P.underlying t = some (.slice e)) (hi : P.info? e = some i) (hz : i.zero = some z)
 (hsize : i.size = size) (hby : i.bytes = bytes) (hzs : z.cells.size = size) (hsz : 0 < size)
 (v : Value) (n : Nat) (xs : List Value) (hs : a.eval s = v) (hown : w.ownsRow base e size v n xs)
 (p : Option Addr) (m c : Nat) (news : List Value) (hx : a.eval x = .slice p m c) (hl : news.length = m * size) (hnews : 0 < m → ∃ ad, p = some ad ∧ ∀ j u, news[j]? = some u → w.cell? (ad.add j) = some u) (h1 : ∀ u ∈ news, u.oneCell' = true)
 (h63 : n + m ≤ maxLen) (hbytes : (n + m) * bytes ≤ 140737488355328) (hbase : base ≤ w.heap.size)
 (h : ∀ v' w', w'.ownsRow base e size v' (n + m) (xs ++ news) → w.grownBy w' v.ownBlock → K (a.put o.dst v') w') :
 if Region.wanted o (yielded ops a.tmps) = true then Oper.wp P o a w K Q else E := by
 rw [if_pos (by unfold Region.wanted; rw [hgd])]
 exact wp_app_r s x t ho base e i z size bytes ht hi hz hsize hby hzs hsz v n xs hs hown p m c news hx hl hnews h1 h63 hbytes hbase h
end
def joinW (ws : List ByteArray) : ByteArray := ⟨(Lib.join (ws.map (·.data.toList)) (⟨#[32]⟩ : ByteArray).data.toList).toArray⟩
def lineW (k kd : ByteArray) (ws : List ByteArray) : ByteArray := k ++ ⟨#[61]⟩ ++ kd ++ joinW ws
def WrdAt (w : World) (q : Option Addr) (n c : Nat) (ws : List ByteArray) : Prop := n = ws.length ∧ n ≤ c ∧ ∀ (j : Nat) (x : ByteArray), ws[j]? = some x → ∃ g o, q = some ⟨g, o, none⟩ ∧ w.cell? ⟨g, o + j, none⟩ = some (.string x)
theorem WrdAt.on {w w' : World} {q : Option Addr} {n c : Nat} {ws : List ByteArray} (h : WrdAt w q n c ws) (b : Below w.heap.size w w') : WrdAt w' q n c ws := ⟨h.1, h.2.1, fun j x hx => by
 obtain ⟨g, o, e, hc⟩ := h.2.2 j x hx
 exact ⟨g, o, e, (b.cell (World.block_lt_of_cell? w _ hc)).trans hc⟩⟩
theorem wrd_own {w : World} {B n : Nat} {q : Option Addr} {c : Nat} {ws : List ByteArray} (h : w.ownsRow B 9 1 (.slice q n c) n (sG ws)) : WrdAt w q n c ws := by
 have hl : n = ws.length := by have := h.1; rw [sG_length, Nat.mul_one] at this; exact this.symm
 rcases h.2 with ⟨hv, hz⟩ | ⟨g, cap, cur, hv, hb, hg, hnc, hm, hs, ht⟩
 ·injection hv with _ e2 e3
  subst e2 e3
  exact ⟨hl, Nat.le_refl _, fun j x hx => by rw [List.eq_nil_of_length_eq_zero hl.symm] at hx; simp at hx⟩
 ·injection hv with e1 e2 e3
  subst e1 e3
  refine ⟨hl, hnc, fun j x hx => ⟨g, 0, rfl, ?_⟩⟩
  have := h.cells (g := g) rfl j _ (sG_get hx)
  rw [Addr.add_lit] at this
  exact this
def OutS (w : World) (ss : List ByteArray) (e : Ending) (w' : World) : Prop := ∃ q c, e = .returned (.slice q ss.length c) ∧ w'.ownsRow w.heap.size 9 1 (.slice q ss.length c) ss.length (sG ss) ∧ Below w.heap.size w w'
theorem one_row19 (w : World) (x : ByteArray) {B : Nat} (hB : B ≤ w.heap.size) : (w.alloc (.cells #[.string x] 9)).ownsRow B 9 1 (.slice (some ⟨w.heap.size, 0, none⟩) 1 1) 1 (sG [x]) := World.ownsRow_lit w #[.string x] 1 hB (by decide) rfl
theorem size_join19 (ws : List ByteArray) : (joinW ws).size = (Lib.join (ws.map (·.data.toList)) (⟨#[32]⟩ : ByteArray).data.toList).length := by unfold joinW; show (List.toArray _).size = _; simp
set_option maxHeartbeats 4000000 in
theorem line_c19 (k kd : ByteArray) (q : Option Addr) (n c : Nat) (ws : List ByteArray) (w : World) (h : WrdAt w q n c ws) (hk : k.size ≤ 1000) (hkd : kd.size ≤ 1000) (hn : n ≤ 100000) (hj : (joinW ws).size ≤ 1000000) : Calls Tryz.prog 79 #[.string k, .string kd, .slice q n c] w fun e w' => e = .returned (.string (lineW k kd ws)) ∧ Below w.heap.size w w' := by
 obtain ⟨hl, hc, hr⟩ := h
 have HJ : Calls Tryz.prog 111 #[.slice q n c, .string ⟨#[32]⟩] w fun e w' => e = .returned (.string (joinW ws)) ∧ Below w.heap.size w w' := by
  cases ws with
  | nil =>
   obtain rfl : n = 0 := hl
   exact (Tryz.strings_Join_none q c ⟨#[32]⟩ w).mono fun e w' ⟨h1, h2⟩ => ⟨h1.trans (by unfold joinW; rfl), h2 ▸ Below.refl _ _⟩
  | cons x r =>
   obtain ⟨g, o, rfl, hc0⟩ := hr 0 x rfl
   subst hl
   refine Tryz.strings_Join g o c (x :: r) ⟨#[32]⟩ w (fun j y hy => ?_) (World.block_lt_of_cell? w _ hc0) (by omega) hc (by rw [← size_join19]; omega)
   obtain ⟨g', o', e, hcj⟩ := hr j y hy
   injection e with e
   injection e with e1 e2 _
   subst e1 e2
   exact hcj
 have HJJ := hid HJ
 unfold lineW
 have hs1 : (k ++ ⟨#[61]⟩ : ByteArray).size = k.size + 1 := by rw [ByteArray.size_append]; rfl
 have hs2 : (k ++ ⟨#[61]⟩ ++ kd : ByteArray).size = k.size + 1 + kd.size := by rw [ByteArray.size_append, hs1]
 have z1 : ¬ 9223372036854775807 < k.size + 1 := by omega
 have z2 : ¬ 9223372036854775807 < k.size + 1 + kd.size := by omega
 have z3 : ¬ 9223372036854775807 < k.size + 1 + kd.size + (joinW ws).size := by omega
 have z4 : k.size + 1 ≤ 9223372036854775807 := by omega
 have z5 : k.size + 1 + kd.size ≤ 9223372036854775807 := by omega
 have z6 : k.size + 1 + kd.size + (joinW ws).size ≤ 9223372036854775807 := by omega
 generalize joinW ws = J at HJJ hj z3 z6 ⊢
 clear hl hc hr HJ hk hkd hn hj
 go_enter Tryz.func79, Tryz.ntmps79
 go_wp2_with (first
  | (go_at_call 111; ((with_reducible refine (HJJ.out).mono ?_); rintro e w1 ⟨rfl, b1⟩))
  | fail)
 go_ret
 exact ⟨rfl, b1⟩
def losW (k kd : ByteArray) (ws : List ByteArray) : List ByteArray := if ws = [] then [] else [lineW k kd ws]
set_option maxHeartbeats 4000000 in
theorem los_c19 (k kd : ByteArray) (q : Option Addr) (n c : Nat) (ws : List ByteArray) (w : World) (h : WrdAt w q n c ws) (hk : k.size ≤ 1000) (hkd : kd.size ≤ 1000) (hn : n ≤ 100000) (hj : (joinW ws).size ≤ 1000000) : Calls Tryz.prog 36 #[.string k, .string kd, .slice q n c] w fun e w' => OutS w (losW k kd ws) e w' := by
 have HLN := hid (line_c19 k kd q n c ws w h hk hkd hn hj)
 unfold losW
 by_cases e : n = 0
 ·have hw : ws = [] := List.eq_nil_of_length_eq_zero (by rw [← h.1]; exact e)
  subst e
  rw [if_pos hw]
  clear h hk hkd hn hj HLN hw
  go_enter Tryz.func36, Tryz.ntmps36
  go_wp2
  go_ret
  exact ⟨none, 0, rfl, World.ownsRow_nil _ _ _ _, Below.refl _ _⟩
 ·have t : ((n : Int) == 0) = false := beq_eq_false_iff_ne.2 (by omega)
  rw [if_neg (fun h2 => e (by rw [h.1, h2]; rfl))]
  generalize lineW k kd ws = X at HLN ⊢
  clear h hk hkd hn hj e
  go_enter Tryz.func36, Tryz.ntmps36
  go_wp2_with (go_at_call 79; ((with_reducible refine (HLN.out).mono ?_); rintro e w1 ⟨rfl, b1⟩))
  go_ret
  exact ⟨_, _, rfl, one_row19 w1 X b1.size, b1.alloc b1.size _⟩
set_option maxHeartbeats 8000000 in
theorem texts_i19 (q : Option Addr) (n c : Nat) (L : List Int) (tx : Int → ByteArray) (w : World) (hl : n = L.length) (hn : n ≤ 100000) (h : NumsAt .i64 w q L) (HP : ∀ (y : Int) (W : World), y ∈ L → Below w.heap.size w W → Calls Tryz.prog 38 #[.int .i64 y] W fun e w' => e = .returned (.string (tx y)) ∧ Below W.heap.size W w') : Calls Tryz.prog 37 #[.slice q n c, .func (.func 38) #[] #[]] w fun e w' => OutS w (L.map tx) e w' := by
 obtain ⟨i0, hi0, hz0, hz1, hz2⟩ := info_parts str_info11
 have HI := hid hi0
 have HZ0 := hid hz0
 have HZ1 := hid hz1
 have HZ2 := hid hz2
 have HN := hid (fun (W : World) (b : Below w.heap.size w W) => h.on b)
 have HL := hid hl
 have HPP := hid HP
 clear h hl HP hi0 hz0 hz1 hz2
 go_enter Tryz.func37, Tryz.ntmps37
 go_wp2
 go_loopw [5, 10] (fun v5 v10 wr => ∃ k : Nat, k ≤ n ∧ v10 = .int .i64 k ∧ Hid (wr.ownsRow w.heap.size 9 1 v5 k (sG ((L.take k).map tx))) ∧ Hid (Below w.heap.size w wr)) (fun _ v10 _ => n - (intOf v10).toNat)
 case atStart => exact ⟨0, Nat.zero_le _, rfl, hid (World.ownsRow_nil _ _ _ _), hid (Below.refl _ _)⟩
 case round =>
  obtain ⟨k, hk, rfl, PO, PB⟩ := hrel
  obtain ⟨V, rfl⟩ : ∃ wo : World, wo = wr := ⟨_, rfl⟩
  by_cases hlt : k < n
  ·obtain ⟨y, hy⟩ : ∃ y, L[k]? = some y := ⟨L[k]'(by rw [← HL.out]; exact hlt), List.getElem?_eq_getElem _⟩
   obtain ⟨g, o, rfl, hc⟩ := HN.out V PB.out k y hy
   have k1 : (k : Int) < n := by omega
   have k0 : (0 : Int) ≤ k := by omega
   have HK := hid (HPP.out y V (List.mem_of_getElem? hy) PB.out)
   have HT := hid (show (L.take (k + 1)).map tx = (L.take k).map tx ++ [tx y] by rw [List.take_add_one, hy, List.map_append]; rfl)
   generalize tx y = x at HK HT
   clear hy
   go_wp2_with (first
    | (go_at_call 38; ((with_reducible refine (HK.out).mono ?_); rintro e v1 ⟨rfl, b1⟩); have B1 := hid (thn16 PB.out b1); have PO1 := hid (owns_on16 PO.out b1); clear b1)
    | (at_builtin
       refine wpList_append_own _ rfl (.tmp 14) (.tmp 18) 44 rfl w.heap.size 9 i0 _ 1 16 Tryz.underlying44 HI.out HZ0.out HZ1.out HZ2.out rfl (by omega) _ k _ rfl (PO1.out.alloc _) ⟨v1.heap.size, 0, none⟩ 1 1 (sG [x]) rfl rfl (news_g v1 x _) (sG_one _) (by unfold maxLen; omega) (by omega) (by rw [World.size_alloc]; exact Nat.le_succ_of_le B1.out.size) ?_
       intro v5 w5 o5 h5 _
       rw [← sG_app] at o5
       have O5 := hid o5
       have B5 := hid ((B1.out.alloc B1.out.size _).grown h5 (by rw [World.size_alloc]; exact Nat.le_succ_of_le B1.out.size) (fun g hg => (PO1.out.lt g hg).1))
       clear o5 h5))
   go_roundw
   case rel => exact ⟨k + 1, by omega, by go_num, hid (by rw [HT.out]; exact O5.out), B5⟩
   case measure => first | (simp [intOf]; done) | (simp [intOf]; omega)
  ·obtain rfl : k = n := by omega
   have k1 : ¬ (k : Int) < (k : Nat) := by omega
   have HO := hid (show V.ownsRow w.heap.size 9 1 u5 (L.map tx).length (sG (L.map tx)) by
    have := PO.out
    rw [List.take_of_length_le (by rw [← HL.out]; exact Nat.le_refl _)] at this
    rw [List.length_map, ← HL.out]
    exact this)
   obtain ⟨qv, cv, hqv⟩ := own16 HO.out
   subst hqv
   go_wp2
   go_ret
   exact ⟨qv, cv, by rw [List.length_map]; rfl, HO.out, PB.out⟩
set_option maxHeartbeats 8000000 in
theorem texts_u19 (q : Option Addr) (n c : Nat) (L : List Int) (tx : Int → ByteArray) (w : World) (hl : n = L.length) (hn : n ≤ 100000) (h : NumsAt .u32 w q L) (HP : ∀ (y : Int) (W : World), y ∈ L → Below w.heap.size w W → Calls Tryz.prog 87 #[.int .u32 y] W fun e w' => e = .returned (.string (tx y)) ∧ Below W.heap.size W w') : Calls Tryz.prog 86 #[.slice q n c, .func (.func 87) #[] #[]] w fun e w' => OutS w (L.map tx) e w' := by
 obtain ⟨i0, hi0, hz0, hz1, hz2⟩ := info_parts str_info11
 have HI := hid hi0
 have HZ0 := hid hz0
 have HZ1 := hid hz1
 have HZ2 := hid hz2
 have HN := hid (fun (W : World) (b : Below w.heap.size w W) => h.on b)
 have HL := hid hl
 have HPP := hid HP
 clear h hl HP hi0 hz0 hz1 hz2
 go_enter Tryz.func86, Tryz.ntmps86
 go_wp2
 go_loopw [5, 10] (fun v5 v10 wr => ∃ k : Nat, k ≤ n ∧ v10 = .int .i64 k ∧ Hid (wr.ownsRow w.heap.size 9 1 v5 k (sG ((L.take k).map tx))) ∧ Hid (Below w.heap.size w wr)) (fun _ v10 _ => n - (intOf v10).toNat)
 case atStart => exact ⟨0, Nat.zero_le _, rfl, hid (World.ownsRow_nil _ _ _ _), hid (Below.refl _ _)⟩
 case round =>
  obtain ⟨k, hk, rfl, PO, PB⟩ := hrel
  obtain ⟨V, rfl⟩ : ∃ wo : World, wo = wr := ⟨_, rfl⟩
  by_cases hlt : k < n
  ·obtain ⟨y, hy⟩ : ∃ y, L[k]? = some y := ⟨L[k]'(by rw [← HL.out]; exact hlt), List.getElem?_eq_getElem _⟩
   obtain ⟨g, o, rfl, hc⟩ := HN.out V PB.out k y hy
   have k1 : (k : Int) < n := by omega
   have k0 : (0 : Int) ≤ k := by omega
   have HK := hid (HPP.out y V (List.mem_of_getElem? hy) PB.out)
   have HT := hid (show (L.take (k + 1)).map tx = (L.take k).map tx ++ [tx y] by rw [List.take_add_one, hy, List.map_append]; rfl)
   generalize tx y = x at HK HT
   clear hy
   go_wp2_with (first
    | (go_at_call 87; ((with_reducible refine (HK.out).mono ?_); rintro e v1 ⟨rfl, b1⟩); have B1 := hid (thn16 PB.out b1); have PO1 := hid (owns_on16 PO.out b1); clear b1)
    | (at_builtin
       refine wpList_append_own _ rfl (.tmp 14) (.tmp 18) 44 rfl w.heap.size 9 i0 _ 1 16 Tryz.underlying44 HI.out HZ0.out HZ1.out HZ2.out rfl (by omega) _ k _ rfl (PO1.out.alloc _) ⟨v1.heap.size, 0, none⟩ 1 1 (sG [x]) rfl rfl (news_g v1 x _) (sG_one _) (by unfold maxLen; omega) (by omega) (by rw [World.size_alloc]; exact Nat.le_succ_of_le B1.out.size) ?_
       intro v5 w5 o5 h5 _
       rw [← sG_app] at o5
       have O5 := hid o5
       have B5 := hid ((B1.out.alloc B1.out.size _).grown h5 (by rw [World.size_alloc]; exact Nat.le_succ_of_le B1.out.size) (fun g hg => (PO1.out.lt g hg).1))
       clear o5 h5))
   go_roundw
   case rel => exact ⟨k + 1, by omega, by go_num, hid (by rw [HT.out]; exact O5.out), B5⟩
   case measure => first | (simp [intOf]; done) | (simp [intOf]; omega)
  ·obtain rfl : k = n := by omega
   have k1 : ¬ (k : Int) < (k : Nat) := by omega
   have HO := hid (show V.ownsRow w.heap.size 9 1 u5 (L.map tx).length (sG (L.map tx)) by
    have := PO.out
    rw [List.take_of_length_le (by rw [← HL.out]; exact Nat.le_refl _)] at this
    rw [List.length_map, ← HL.out]
    exact this)
   obtain ⟨qv, cv, hqv⟩ := own16 HO.out
   subst hqv
   go_wp2
   go_ret
   exact ⟨qv, cv, by rw [List.length_map]; rfl, HO.out, PB.out⟩
set_option maxHeartbeats 8000000 in
theorem texts_n19 (q : Option Addr) (n c : Nat) (L : List Int) (tx : Int → ByteArray) (w : World) (hl : n = L.length) (hn : n ≤ 100000) (h : NumsAt .u64 w q L) (HP : ∀ (y : Int) (W : World), y ∈ L → Below w.heap.size w W → Calls Tryz.prog 44 #[.int .u64 y] W fun e w' => e = .returned (.string (tx y)) ∧ Below W.heap.size W w') : Calls Tryz.prog 42 #[.slice q n c, .func (.func 44) #[] #[]] w fun e w' => OutS w (L.map tx) e w' := by
 obtain ⟨i0, hi0, hz0, hz1, hz2⟩ := info_parts str_info11
 have HI := hid hi0
 have HZ0 := hid hz0
 have HZ1 := hid hz1
 have HZ2 := hid hz2
 have HN := hid (fun (W : World) (b : Below w.heap.size w W) => h.on b)
 have HL := hid hl
 have HPP := hid HP
 clear h hl HP hi0 hz0 hz1 hz2
 go_enter Tryz.func42, Tryz.ntmps42
 go_wp2
 go_loopw [5, 10] (fun v5 v10 wr => ∃ k : Nat, k ≤ n ∧ v10 = .int .i64 k ∧ Hid (wr.ownsRow w.heap.size 9 1 v5 k (sG ((L.take k).map tx))) ∧ Hid (Below w.heap.size w wr)) (fun _ v10 _ => n - (intOf v10).toNat)
 case atStart => exact ⟨0, Nat.zero_le _, rfl, hid (World.ownsRow_nil _ _ _ _), hid (Below.refl _ _)⟩
 case round =>
  obtain ⟨k, hk, rfl, PO, PB⟩ := hrel
  obtain ⟨V, rfl⟩ : ∃ wo : World, wo = wr := ⟨_, rfl⟩
  by_cases hlt : k < n
  ·obtain ⟨y, hy⟩ : ∃ y, L[k]? = some y := ⟨L[k]'(by rw [← HL.out]; exact hlt), List.getElem?_eq_getElem _⟩
   obtain ⟨g, o, rfl, hc⟩ := HN.out V PB.out k y hy
   have k1 : (k : Int) < n := by omega
   have k0 : (0 : Int) ≤ k := by omega
   have HK := hid (HPP.out y V (List.mem_of_getElem? hy) PB.out)
   have HT := hid (show (L.take (k + 1)).map tx = (L.take k).map tx ++ [tx y] by rw [List.take_add_one, hy, List.map_append]; rfl)
   generalize tx y = x at HK HT
   clear hy
   go_wp2_with (first
    | (go_at_call 44; ((with_reducible refine (HK.out).mono ?_); rintro e v1 ⟨rfl, b1⟩); have B1 := hid (thn16 PB.out b1); have PO1 := hid (owns_on16 PO.out b1); clear b1)
    | (at_builtin
       refine wpList_append_own _ rfl (.tmp 14) (.tmp 18) 44 rfl w.heap.size 9 i0 _ 1 16 Tryz.underlying44 HI.out HZ0.out HZ1.out HZ2.out rfl (by omega) _ k _ rfl (PO1.out.alloc _) ⟨v1.heap.size, 0, none⟩ 1 1 (sG [x]) rfl rfl (news_g v1 x _) (sG_one _) (by unfold maxLen; omega) (by omega) (by rw [World.size_alloc]; exact Nat.le_succ_of_le B1.out.size) ?_
       intro v5 w5 o5 h5 _
       rw [← sG_app] at o5
       have O5 := hid o5
       have B5 := hid ((B1.out.alloc B1.out.size _).grown h5 (by rw [World.size_alloc]; exact Nat.le_succ_of_le B1.out.size) (fun g hg => (PO1.out.lt g hg).1))
       clear o5 h5))
   go_roundw
   case rel => exact ⟨k + 1, by omega, by go_num, hid (by rw [HT.out]; exact O5.out), B5⟩
   case measure => first | (simp [intOf]; done) | (simp [intOf]; omega)
  ·obtain rfl : k = n := by omega
   have k1 : ¬ (k : Int) < (k : Nat) := by omega
   have HO := hid (show V.ownsRow w.heap.size 9 1 u5 (L.map tx).length (sG (L.map tx)) by
    have := PO.out
    rw [List.take_of_length_le (by rw [← HL.out]; exact Nat.le_refl _)] at this
    rw [List.length_map, ← HL.out]
    exact this)
   obtain ⟨qv, cv, hqv⟩ := own16 HO.out
   subst hqv
   go_wp2
   go_ret
   exact ⟨qv, cv, by rw [List.length_map]; rfl, HO.out, PB.out⟩
/-! ### the lines of a policy's single parts -/
def yesW (k : ByteArray) (b : Bool) : List ByteArray := if b = true then [lineW k ⟨#[]⟩ [(⟨#[121, 101, 115]⟩ : ByteArray)]] else []
def kErW : ByteArray := (⟨#[83, 121, 115, 116, 101, 109, 67, 97, 108, 108, 69, 114, 114, 111, 114, 78, 117, 109, 98, 101, 114]⟩ : ByteArray)
def kFaW : ByteArray := (⟨#[82, 101, 115, 116, 114, 105, 99, 116, 65, 100, 100, 114, 101, 115, 115, 70, 97, 109, 105, 108, 105, 101, 115]⟩ : ByteArray)
def denW (d : Nat) : List ByteArray := if d = 2147483648 then [] else [lineW kErW ⟨#[]⟩ [errnoNameR (d &&& 65535)]]
def nmF (n : Int) : ByteArray := (nameR famT n.toNat).getD ⟨#[]⟩
def famW (m : Nat) (l : List Nat) : List ByteArray :=
 if m = 0 then [] else if m = 2 then [lineW kFaW (⟨#[126]⟩ : ByteArray) ((natI l).map nmF)] else if l = [] then [lineW kFaW ⟨#[]⟩ [(⟨#[110, 111, 110, 101]⟩ : ByteArray)]] else [lineW kFaW ⟨#[]⟩ ((natI l).map nmF)]
theorem join_one19 (x : ByteArray) : joinW [x] = x := by unfold joinW; rw [List.map_cons, List.map_nil, Lib.join_one, Lib.mk_data]
set_option maxHeartbeats 4000000 in
theorem yes_c19 (k : ByteArray) (b : Bool) (w : World) (hk : k.size ≤ 1000) : Calls Tryz.prog 45 #[.string k, .bool b] w fun e w' => OutS w (yesW k b) e w' := by
 have HLN := hid (line_c19 k ⟨#[]⟩ (some ⟨w.heap.size, 0, none⟩) 1 1 [(⟨#[121, 101, 115]⟩ : ByteArray)] (w.alloc (.cells #[.string (⟨#[121, 101, 115]⟩ : ByteArray)] 9)) (wrd_own (one_row19 w _ (Nat.le_refl _))) hk (by decide) (by decide) (by rw [join_one19]; decide))
 unfold yesW
 generalize lineW k ⟨#[]⟩ [(⟨#[121, 101, 115]⟩ : ByteArray)] = X at HLN ⊢
 cases b with
 | false =>
  clear HLN
  go_enter Tryz.func45, Tryz.ntmps45
  go_wp2
  go_ret
  exact ⟨none, 0, rfl, World.ownsRow_nil _ _ _ _, Below.refl _ _⟩
 | true =>
  clear hk
  go_enter Tryz.func45, Tryz.ntmps45
  go_wp2_with (go_at_call 79; ((with_reducible refine (HLN.out).mono ?_); rintro e w1 ⟨rfl, b1⟩); have B1 := hid (((Below.refl w.heap.size w).alloc (Nat.le_refl _) _).trans (b1.mono (by rw [World.size_alloc]; exact Nat.le_succ _))))
  go_ret
  exact ⟨_, _, rfl, one_row19 w1 X B1.out.size, B1.out.alloc B1.out.size _⟩
set_option maxHeartbeats 4000000 in
theorem den_c19 (d : Nat) (w : World) (hG : GN w) (hd : d < 4294967296) (hj : (errnoNameR (d &&& 65535)).size ≤ 1000) : Calls Tryz.prog 40 #[.int .u32 (d : Nat)] w fun e w' => OutS w (denW d) e w' := by
 have hb : bits .and .u32 ((d : Nat) : Int) 65535 = ((d &&& 65535 : Nat) : Int) := u32_and_nat d 65535 hd (by decide)
 have hlt : d &&& 65535 < 4294967296 := Nat.lt_of_le_of_lt Nat.and_le_left hd
 have HE := hid (errnoNameN (d &&& 65535) w hG hlt)
 unfold denW
 by_cases e : d = 2147483648
 ·subst e
  rw [if_pos rfl]
  clear HE hb hlt hj hd
  go_enter Tryz.func40, Tryz.ntmps40
  go_wp2
  go_ret
  exact ⟨none, 0, rfl, World.ownsRow_nil _ _ _ _, Below.refl _ _⟩
 ·have t : ((d : Int) == 2147483648) = false := beq_eq_false_iff_ne.2 (by omega)
  rw [if_neg e]
  generalize errnoNameR (d &&& 65535) = s at HE hj ⊢
  generalize (d &&& 65535) = m at HE hb
  have HLN := hid (fun (W : World) => line_c19 kErW ⟨#[]⟩ (some ⟨W.heap.size, 0, none⟩) 1 1 [s] (W.alloc (.cells #[.string s] 9)) (wrd_own (one_row19 W _ (Nat.le_refl _))) (by decide) (by decide) (by decide) (by rw [join_one19]; omega))
  generalize lineW kErW ⟨#[]⟩ [s] = X at HLN ⊢
  unfold kErW at HLN
  clear hG hd hj hlt e
  go_enter Tryz.func40, Tryz.ntmps40
  go_wp2_with (first
   | (go_at_call 85; ((with_reducible refine (HE.out).mono ?_); rintro e w1 ⟨rfl, b1⟩); have B1 := hid b1; clear b1)
   | (go_at_call 79; ((with_reducible refine (HLN.out _).mono ?_); rintro e w2 ⟨rfl, b2⟩); have B2 := hid ((B1.out.alloc B1.out.size _).trans (b2.mono (by rw [World.size_alloc]; exact Nat.le_succ_of_le B1.out.size))))
   | fail)
  go_ret
  exact ⟨_, _, rfl, one_row19 w2 X B2.out.size, B2.out.alloc B2.out.size _⟩
set_option maxHeartbeats 8000000 in
theorem fam_c19 (m : Nat) (q : Option Addr) (n c : Nat) (L : List Nat) (w : World) (hG : GN w) (hm : m < 256) (hl : n = L.length) (hn : n ≤ 100000) (h : NumsAt .u32 w q (natI L)) (hj : (joinW ((natI L).map nmF)).size ≤ 1000000) : Calls Tryz.prog 41 #[.int .u8 (m : Nat), .slice q n c] w fun e w' => OutS w (famW m L) e w' := by
 have HT0 := texts_u19 q n c (natI L) nmF w (by unfold natI; rw [List.length_map]; exact hl) hn h (fun y W hy b => by
  obtain ⟨x, _, rfl⟩ := List.mem_map.1 hy
  exact familyNameN x W (hG.on b))
 obtain ⟨ws, hws⟩ : ∃ ws, ws = (natI L).map nmF := ⟨_, rfl⟩
 rw [← hws] at HT0 hj
 have hlw : ws.length ≤ 100000 := by rw [hws, List.length_map]; unfold natI; rw [List.length_map]; omega
 unfold OutS at HT0
 have HT := hid HT0
 unfold famW
 rw [← hws]
 have HLL := fun (kd : ByteArray) (hkd : kd.size ≤ 1000) => hid (fun (W : World) (q1 : Option Addr) (c1 : Nat) (hw : WrdAt W q1 ws.length c1 ws) => line_c19 kFaW kd q1 ws.length c1 ws W hw (by decide) hkd hlw hj)
 have HLO := hid (fun (W : World) => line_c19 kFaW ⟨#[]⟩ (some ⟨W.heap.size, 0, none⟩) 1 1 [(⟨#[110, 111, 110, 101]⟩ : ByteArray)] (W.alloc (.cells #[.string (⟨#[110, 111, 110, 101]⟩ : ByteArray)] 9)) (wrd_own (one_row19 W _ (Nat.le_refl _))) (by decide) (by decide) (by decide) (by rw [join_one19]; decide))
 generalize lineW kFaW ⟨#[]⟩ [(⟨#[110, 111, 110, 101]⟩ : ByteArray)] = Y at HLO ⊢
 by_cases h0 : m = 0
 ·subst h0
  rw [if_pos rfl]
  clear h hl hn hj hws hlw HLL HLO HT0 hG
  go_enter Tryz.func41, Tryz.ntmps41
  go_wp2_with (go_at_call 86; ((with_reducible refine (HT.out).mono ?_); rintro e w1 ⟨q1, c1, rfl, o1, b1⟩))
  go_ret
  exact ⟨none, 0, rfl, World.ownsRow_nil _ _ _ _, b1⟩
 ·have t0 : ((m : Int) == 0) = false := beq_eq_false_iff_ne.2 (by omega)
  rw [if_neg h0]
  by_cases h2 : m = 2
  ·subst h2
   rw [if_pos rfl]
   have HLL := HLL (⟨#[126]⟩ : ByteArray) (by decide)
   generalize lineW kFaW (⟨#[126]⟩ : ByteArray) ws = X at HLL ⊢
   unfold kFaW at HLL
   clear h hl hn hj hws hlw HLO HT0 hG h0
   go_enter Tryz.func41, Tryz.ntmps41
   go_wp2_with (first
    | (go_at_call 86; ((with_reducible refine (HT.out).mono ?_); rintro e w1 ⟨q1, c1, rfl, o1, b1⟩); have HLN := hid (HLL.out w1 q1 c1 (wrd_own o1)); have B1 := hid b1; clear b1 o1)
    | (go_at_call 79; ((with_reducible refine (HLN.out).mono ?_); rintro e w2 ⟨rfl, b2⟩); have B2 := hid (thn16 B1.out b2)))
   go_ret
   exact ⟨_, _, rfl, one_row19 w2 X B2.out.size, B2.out.alloc B2.out.size _⟩
  ·have t2 : ((m : Int) == 2) = false := beq_eq_false_iff_ne.2 (by omega)
   rw [if_neg h2]
   have HLL := HLL ⟨#[]⟩ (by decide)
   by_cases hz : n = 0
   ·have he : L = [] := List.eq_nil_of_length_eq_zero (by rw [← hl]; exact hz)
    subst hz
    rw [if_pos he]
    unfold kFaW at HLO
    clear h hl hn hj hws hlw HT0 hG h0 h2 he HLL
    go_enter Tryz.func41, Tryz.ntmps41
    go_wp2_with (first
     | (go_at_call 86; ((with_reducible refine (HT.out).mono ?_); rintro e w1 ⟨q1, c1, rfl, o1, b1⟩); have B1 := hid b1; clear b1 o1)
     | (go_at_call 79; ((with_reducible refine (HLO.out _).mono ?_); rintro e w2 ⟨rfl, b2⟩); have B2 := hid ((B1.out.alloc B1.out.size _).trans (b2.mono (by rw [World.size_alloc]; exact Nat.le_succ_of_le B1.out.size)))))
    go_ret
    exact ⟨_, _, rfl, one_row19 w2 Y B2.out.size, B2.out.alloc B2.out.size _⟩
   ·have tz : ((n : Int) == 0) = false := beq_eq_false_iff_ne.2 (by omega)
    rw [if_neg (fun e => hz (by rw [hl, e]; rfl))]
    generalize lineW kFaW ⟨#[]⟩ ws = X at HLL ⊢
    unfold kFaW at HLL
    clear h hl hn hj hws hlw HLO HT0 hG h0 h2 hz
    go_enter Tryz.func41, Tryz.ntmps41
    go_wp2_with (first
     | (go_at_call 86; ((with_reducible refine (HT.out).mono ?_); rintro e w1 ⟨q1, c1, rfl, o1, b1⟩); have HLN := hid (HLL.out w1 q1 c1 (wrd_own o1)); have B1 := hid b1; clear b1 o1)
     | (go_at_call 79; ((with_reducible refine (HLN.out).mono ?_); rintro e w2 ⟨rfl, b2⟩); have B2 := hid (thn16 B1.out b2)))
    go_ret
    exact ⟨_, _, rfl, one_row19 w2 X B2.out.size, B2.out.alloc B2.out.size _⟩
end Go.Proofs.YtlenjfodjkhpmaaGreatDoor
