/- The statement ArchLists holds, over what the calls have to return: an architecture is in a list just if one of it is it; in the empty one each is; whatever their order. -/
import Derived.Test.YtjfoipjifjblmaaDoorRows
import Derived.Test.YtjfoipjifjblmaaDoorCards
import Derived.Test.YtjfoipjifjblmaaDoorTie
import Derived.SevenTiedAt
import Derived.Test.YtjfoipjifjblmaaDoorWd
import Derived.Test.YtjfoipjifjblmaaDoorLy
import Derived.Test.YtjfoipjifjblmaaDoorBj
import Derived.Test.YtjfoipjifjblmaaDoorBc
import Derived.Laws.BitsAllLaws
import Derived.Deep.RegionHeld3
import Derived.Maps.AppendAt
namespace Go.Proofs.YtjfoipjifjblmaaDoor.archLists
open Go.ChangeShapes Go.WideShapes Go.ChangeAt Go.RowKit
open Go.ChangeMaps (open_string shut_string)
set_option linter.unusedVariables false
attribute [local go_sem ↓] Go.wp_at_zero Go.wp_at_succ
/-- An append at a step of a region that draws its order. -/
theorem step_append8 {ops : Array Oper} {o : Oper} {a : Act} {w : World} {K : Act → World → Prop} {Q : Exit → Act → World → Prop} {E : Prop} (hgd : o.guard = none) (s x : Operand) (t : TypeId)
    (ho : o.op = .call { callee := .builtin .append, args := #[s, x], argTypes := #[t, t] })
    (base : Nat) (e : TypeId) (i : TypeInfo) (z : Value) (size bytes : Nat) (ht : Tryd.prog.underlying t = some (.slice e)) (hi : Tryd.prog.info? e = some i) (hz : i.zero = some z)
    (hsize : i.size = size) (hby : i.bytes = bytes) (hzs : z.cells.size = size) (hsz : 0 < size)
    (v : Value) (n : Nat) (xs : List Value) (hs : a.eval s = v) (hown : w.ownsRow base e size v n xs)
    (ad : Addr) (m c : Nat) (news : List Value) (hx : a.eval x = .slice (some ad) m c) (hl : news.length = m * size) (hnews : ∀ j u, news[j]? = some u → w.cell? (ad.add j) = some u) (h1 : ∀ u ∈ news, u.oneCell' = true)
    (h63 : n + m ≤ maxLen) (hbytes : (n + m) * bytes ≤ 140737488355328) (hbase : base ≤ w.heap.size)
    (h : ∀ v' w', w'.ownsRow base e size v' (n + m) (xs ++ news) → w.grownBy w' v.ownBlock → K (a.put o.dst v') w') :
    if Region.wanted o (yielded ops a.tmps) = true then Oper.wp Tryd.prog o a w K Q else E := by
  have hw : Region.wanted o (yielded ops a.tmps) = true := by simp [Region.wanted, hgd]
  rw [if_pos hw]
  obtain ⟨v', w', hr, h2, h3, h4, h5⟩ := run_append_own_at (P := Tryd.prog) w base t o.type e i z size bytes ht hi hz hsize hby hzs hsz v n xs hown ad m c news hl hnews h1 h63 hbytes hbase
  unfold Oper.wp execOp
  simp only [ho, resolve, invoke, builtin, Sem.run_bind, Sem.run_pure, Result.andThen_ok, List.map_toArray, List.map_cons, List.map_nil, hs, hx, hr]
  exact h v' w' h2 h3
/-- An append that stands behind a guard that says yes. -/
theorem wpList_append8 {ops : Array Oper} {rest : List Oper} {o : Oper} {a : Act} {w : World} {Q : Exit → Act → World → Prop} (hw : Region.wanted o (yielded ops a.tmps) = true) (s x : Operand) (t : TypeId)
    (ho : o.op = .call { callee := .builtin .append, args := #[s, x], argTypes := #[t, t] })
    (base : Nat) (e : TypeId) (i : TypeInfo) (z : Value) (size bytes : Nat) (ht : Tryd.prog.underlying t = some (.slice e)) (hi : Tryd.prog.info? e = some i) (hz : i.zero = some z)
    (hsize : i.size = size) (hby : i.bytes = bytes) (hzs : z.cells.size = size) (hsz : 0 < size)
    (v : Value) (n : Nat) (xs : List Value) (hs : a.eval s = v) (hown : w.ownsRow base e size v n xs)
    (ad : Addr) (m c : Nat) (news : List Value) (hx : a.eval x = .slice (some ad) m c) (hl : news.length = m * size) (hnews : ∀ j u, news[j]? = some u → w.cell? (ad.add j) = some u) (h1 : ∀ u ∈ news, u.oneCell' = true)
    (h63 : n + m ≤ maxLen) (hbytes : (n + m) * bytes ≤ 140737488355328) (hbase : base ≤ w.heap.size)
    (h : ∀ v' w', w'.ownsRow base e size v' (n + m) (xs ++ news) → w.grownBy w' v.ownBlock → wpList Tryd.prog ops Q rest (a.put o.dst v') w') : wpList Tryd.prog ops Q (o :: rest) a w := by
  unfold wpList
  rw [if_pos hw]
  left
  obtain ⟨v', w', hr, h2, h3, h4, h5⟩ := run_append_own_at (P := Tryd.prog) w base t o.type e i z size bytes ht hi hz hsize hby hzs hsz v n xs hown ad m c news hl hnews h1 h63 hbytes hbase
  unfold Oper.wp execOp
  simp only [ho, resolve, invoke, builtin, Sem.run_bind, Sem.run_pure, Result.andThen_ok, List.map_toArray, List.map_cons, List.map_nil, hs, hx, hr]
  exact h v' w' h2 h3
/-- Numbers as cells. -/
def zV (l : List Int) : List Value := l.map fun x => .int .i64 x
theorem zV_length (l : List Int) : (zV l).length = l.length := List.length_map _
theorem zV_app (l m : List Int) : zV (l ++ m) = zV l ++ zV m := List.map_append
theorem zV_one (l : List Int) : ∀ u ∈ zV l, u.oneCell' = true := fun u hu => by
  obtain ⟨x, _, rfl⟩ := List.mem_map.1 hu; rfl
theorem int_info : ∃ i : TypeInfo, Tryd.prog.info? 3 = some i ∧ i.zero = some (.int .i64 0) ∧ i.size = 1 ∧ i.bytes = 8 := by
  refine ⟨(Tryd.prog.info? 3).get (by kernel_rfl), (Option.some_get _).symm, by kernel_rfl, by kernel_rfl, by kernel_rfl⟩
theorem rdz_own {w : World} {B n c : Nat} {q : Option Addr} {l : List Int} (h : w.ownsRow B 3 1 (.slice q n c) n (zV l)) : l.length = n ∧ RdZ w w.heap.size q l ∧ n ≤ c ∧ c ≤ maxLen ∧ (q = none → c = 0) := by
  have hl : l.length = n := by have := h.1; rw [zV_length] at this; omega
  rcases h.2 with ⟨hv, h0⟩ | ⟨g, cap, cur, hv, hg, hh, hc, hm, r⟩
  · injection hv with e1 e2 e3
    subst e1 e3
    refine ⟨hl, fun h => absurd h (by omega), by omega, Nat.zero_le _, fun _ => rfl⟩
  · injection hv with e1 e2 e3
    subst e1 e3
    refine ⟨hl, fun h0 => ⟨g, 0, rfl, (h.lt g rfl).2, fun i hi => ?_⟩, hc, hm, fun h => by cases h⟩
    rw [Nat.zero_add, h.cellAt i (by omega)]
    unfold zV
    rw [List.getElem?_map, List.getElem?_eq_getElem hi, getD_of hi]; rfl
theorem news_z {w : World} {b o : Nat} {l : List Int} (h : ∀ i, i < l.length → w.cell? ⟨b, o + i, none⟩ = some (.int .i64 (l.getD i 0))) : ∀ j u, (zV l)[j]? = some u → w.cell? ((⟨b, o, none⟩ : Addr).add j) = some u := fun j u hu => by
  unfold zV at hu
  rw [List.getElem?_map] at hu
  cases hx : l[j]? with
  | none => rw [hx] at hu; cases hu
  | some x =>
    rw [hx] at hu
    injection hu with hu
    have hj := (List.getElem?_eq_some_iff.1 hx).1
    rw [Addr.add_lit, h j hj, List.getD_eq_getElem?_getD, hx, ← hu]; rfl
theorem in_rot (l : List Int) (k : Nat) (a : Int) (h : l ≠ []) : inR (l.drop k ++ l.take k) a = inR l a := by
  unfold inR
  have e : (a ∈ l.drop k ++ l.take k) ↔ a ∈ l := by
    rw [List.mem_append, or_comm, ← List.mem_append, List.take_append_drop]
  have e2 : (l.drop k ++ l.take k).isEmpty = l.isEmpty := by
    rw [Bool.eq_iff_iff, List.isEmpty_iff, List.isEmpty_iff]
    constructor
    · intro hh
      have := congrArg List.length hh
      rw [List.length_append, List.length_drop, List.length_take, List.length_nil] at this
      exact List.length_eq_zero_iff.1 (by omega)
    · intro hh; exact absurd hh h
  rw [e2]
  congr 1
  exact decide_eq_decide.2 e
theorem in_mem {l : List Int} {a : Int} (h : a ∈ l) : inR l a = true := by unfold inR; rw [decide_eq_true h]; rfl
theorem rdz_news {w w0 : World} {b o : Nat} {l : List Int} (hb : b < w0.heap.size) (h : ∀ i, i < l.length → w0.cell? ⟨b, o + i, none⟩ = some (.int .i64 (l.getD i 0))) (hw : Below w0.heap.size w0 w) : ∀ i, i < l.length → w.cell? ⟨b, o + i, none⟩ = some (.int .i64 (l.getD i 0)) := fun i hi => (hw.cell (p := ⟨b, o + i, none⟩) hb).trans (h i hi)
theorem ownOn8 {w w' : World} {B n size : Nat} {e : TypeId} {v : Value} {xs : List Value} (h : w.ownsRow B e size v n xs) (hb : Below w.heap.size w w') : w'.ownsRow B e size v n xs := by
  have hl := h.lt
  obtain ⟨h1, h2⟩ := h
  refine ⟨h1, ?_⟩
  rcases h2 with h2 | ⟨g, cap, cur, hv, hg, hh, r⟩
  · exact Or.inl h2
  · exact Or.inr ⟨g, cap, cur, hv, hg, by rw [hb.block g (hl g (by rw [hv]; rfl)).2]; exact hh, r⟩
theorem news_one (w : World) (a : Int) : ∀ j u, (zV [a])[j]? = some u → (w.alloc (.cells #[.int .i64 a] 3)).cell? ((⟨w.heap.size, 0, none⟩ : Addr).add j) = some u := fun j u hu => by
  rw [Addr.add_lit, Nat.zero_add, cell_of_row _ _ j _ _ (0, 0) (heap_alloc_new w _), ← Array.getElem?_toList]
  exact hu
theorem own_slice {w : World} {B n : Nat} {e : TypeId} {v : Value} {xs : List Value} (h : w.ownsRow B e 1 v n xs) : ∃ q c, v = .slice q n c := by
  rcases h.2 with ⟨hv, h0⟩ | ⟨g, cap, cur, hv, _⟩
  · exact ⟨none, 0, by rw [hv, h0]⟩
  · exact ⟨_, _, hv⟩
set_option maxRecDepth 100000 in
set_option maxHeartbeats 16000000 in
theorem walk {G : World → Prop} (HC : ArchC G) (a0 : Option Addr) (len0 cap0 : Nat) (z0 : List Int) (a1 : Int) (a2 : Int) (w : World) (hG : G w) (w0 : IsInts w a0 len0 cap0 z0) (w1 : (Lit.int .i64 a1).wf = true) (w2 : (Lit.int .i64 a2).wf = true) :
    Calls Tryd.prog 7 #[.slice a0 len0 cap0, .int .i64 a1, .int .i64 a2] w fun e w' => e = .returned (.bool true) ∧ Below w.heap.size w w' := by
  obtain ⟨l0, l1⟩ := bounds_i64 w1
  have HA := Lib.hid (fun (W : World) (g : G W) => awake8_any HC W g)
  have HON := Lib.hid (fun (w w' : World) => HC.on (w := w) (w' := w'))
  have HG := Lib.hid hG
  have HIN := Lib.hid (fun (q : Option Addr) (n cap : Nat) (l : List Int) (a : Int) (W : World) (g : G W) (h1 : l.length = n) (h2 : ∀ y ∈ l, -9223372036854775808 ≤ y ∧ y ≤ 9223372036854775807) (h3 : n ≤ 1000) (h4 : n ≤ cap) (h5 : cap ≤ maxLen) (h6 : q = none → cap = 0) (h7 : -9223372036854775808 ≤ a) (h8 : a ≤ 9223372036854775807) (h9 : RdZ W W.heap.size q l) => HC.in_ q n cap l a W g h1 h2 h3 h4 h5 h6 h7 h8 h9)
  have H0 := Lib.hid (HIN.out none 0 0 [] a1 w hG rfl (fun y hy => absurd hy (by simp)) (by omega) (Nat.le_refl _) (Nat.zero_le _) (fun _ => rfl) l0 l1 (fun h => absurd h (by simp)))
  rw [show inR [] a1 = true from by unfold inR; rfl] at H0
  by_cases hz : len0 = 0
  · subst hz
    clear HC hG w0 w1 w2 HIN
    go_enter Tryd.func7, Tryd.ntmps7
    go_wp2_with (first
      | (go_at_call 18; ((with_reducible refine (H0.out).mono ?_); rintro e v1 ⟨rfl, b1⟩); have G1 := HON.out _ _ HG.out b1)
      | (go_at_call 12; ((with_reducible refine (HA.out _ G1).mono ?_); rintro e v2 ⟨rfl, b2⟩); have B2 := thn b1 b2))
    go_ret
    exact ⟨rfl, B2⟩
  have z0' : ((len0 : Int) == 0) = false := beq_eq_false_iff_ne.2 (by omega)
  by_cases hbig : (40 : Int) < len0
  · clear HC hG w0 w1 w2 HIN hz
    go_enter Tryd.func7, Tryd.ntmps7
    go_wp2_with (first
      | (go_at_call 18; ((with_reducible refine (H0.out).mono ?_); rintro e v1 ⟨rfl, b1⟩); have G1 := HON.out _ _ HG.out b1)
      | (go_at_call 12; ((with_reducible refine (HA.out _ G1).mono ?_); rintro e v2 ⟨rfl, b2⟩); have B2 := thn b1 b2))
    go_ret
    exact ⟨rfl, B2⟩
  obtain ⟨u, hu⟩ : ∃ u, u = IntKind.u64.wrap a2 := ⟨_, rfl⟩
  have hub : 0 ≤ u ∧ u < 18446744073709551616 := by rw [hu, IntKind.wrap_u64]; omega
  obtain ⟨k, hk⟩ : ∃ k : Nat, (k : Int) = u % len0 := ⟨(u % len0).toNat, by have := Int.emod_nonneg u (b := (len0 : Int)) (by omega); omega⟩
  have hkn : (k : Int) < len0 := by rw [hk]; exact Int.emod_lt_of_pos u (by omega)
  have hku := hk.symm
  have htm : u.tmod len0 = k := by rw [Int.tmod_eq_emod_of_nonneg hub.1]; exact hku
  have huw := hu.symm
  obtain ⟨u0, u1⟩ := hub
  have n1 : (0 : Int) < len0 := by omega
  have n2 : (len0 : Int) ≤ 40 := by omega
  have hwl : IntKind.u64.wrap (len0 : Int) = len0 := by rw [IntKind.wrap_u64]; omega
  have hwk : IntKind.i64.wrap (k : Int) = k := by rw [IntKind.wrap_i64]; omega
  have n3 : ¬ (len0 : Int) = 0 := by omega
  have k0 : (0 : Int) ≤ k := by omega
  have n4 : ¬ (40 : Int) < len0 := hbig
  obtain ⟨b, o, rfl, hb, hcs⟩ := w0.rd (by rw [w0.size]; omega)
  have hcap : (len0 : Int) ≤ cap0 := by have := w0.fits; omega
  have hcap2 : (k : Int) ≤ cap0 := by omega
  have hcap3 : ¬ cap0 = k := by omega
  have hkle : k ≤ len0 := by omega
  have hkle2 : (k : Int) ≤ len0 := by omega
  obtain ⟨i0, hi', hz0, hz1, hz2⟩ := int_info
  have HI := Lib.hid hi'
  have HZ0 := Lib.hid hz0
  have HZ1 := Lib.hid hz1
  have HZ2 := Lib.hid hz2
  have HL1 := Lib.hid (show (zV (z0.drop k)).length = (len0 - k) * 1 by rw [zV_length, List.length_drop, w0.size, Nat.mul_one])
  have HL2 := Lib.hid (show (zV (z0.take k)).length = k * 1 by rw [zV_length, List.length_take, w0.size, Nat.mul_one, Nat.min_eq_left hkle])
  have HW1 := Lib.hid (fun (V : World) (bl : Below w.heap.size w V) => news_z (w := V) (b := b) (o := o + k) (l := z0.drop k) (fun i hi => by
    rw [List.length_drop, w0.size] at hi
    rw [show o + k + i = o + (k + i) by omega, rdz_news hb hcs bl (k + i) (by rw [w0.size]; omega)]
    rw [List.getD_eq_getElem?_getD, List.getD_eq_getElem?_getD, List.getElem?_drop]))
  have HW2 := Lib.hid (fun (V : World) (bl : Below w.heap.size w V) => news_z (w := V) (b := b) (o := o) (l := z0.take k) (fun i hi => by
    rw [List.length_take, w0.size] at hi
    rw [rdz_news hb hcs bl i (by rw [w0.size]; omega)]
    rw [List.getD_eq_getElem?_getD, List.getD_eq_getElem?_getD, List.getElem?_take_of_lt (by omega)]))
  have OW := Lib.hid (World.ownsRow_lit (size := 1) w #[] (e := 3) 0 (Nat.le_refl _) (Nat.zero_le _) rfl)
  have BW := Lib.hid (((Below.refl w.heap.size w).alloc (Nat.le_refl _) (.cells #[] 3)).drew)
  clear hu hk hbig hz HC hG
  go_enter Tryd.func7, Tryd.ntmps7
  go_wp2_with fail
  go_region_held3 (fun _ => True) (trivial) (first
    | ((refine step_append8 (by rfl) (.tmp 29) (.tmp 32) 33 (by rfl) w.heap.size 3 i0 (.int .i64 0) 1 8 Tryd.underlying33 HI.out HZ0.out HZ1.out HZ2.out rfl (by omega) (.slice (some ⟨w.heap.size, 0, none⟩) 0 0) 0 [] (by rfl) OW.out.drew ⟨b, o + k, none⟩ (len0 - k) (cap0 - k) (zV (z0.drop k)) (by rfl) HL1.out (HW1.out _ BW.out) (zV_one _) (by unfold maxLen; omega) (by omega) (by simp) ?_); intro v1 w1 o1 g1; have O1 := Lib.hid o1; have B1 := Lib.hid (BW.out.grown g1 (by simp) (fun g hg => (OW.out.lt g hg).1)); clear o1 g1)
    | ((refine step_append8 (by rfl) (.tmp 33) (.tmp 36) 33 (by rfl) w.heap.size 3 i0 (.int .i64 0) 1 8 Tryd.underlying33 HI.out HZ0.out HZ1.out HZ2.out rfl (by omega) v1 (0 + (len0 - k)) ([] ++ zV (z0.drop k)) (by rfl) O1.out ⟨b, o, none⟩ k cap0 (zV (z0.take k)) (by rfl) HL2.out (HW2.out _ B1.out) (zV_one _) (by unfold maxLen; omega) (by omega) B1.out.size ?_); intro v2 w2 o2 g2; have O2 := Lib.hid o2; have B2 := Lib.hid (B1.out.grown g2 B1.out.size (fun g hg => (O1.out.lt g hg).1)); clear o2 g2))
  have O3 := O2.out
  rw [List.nil_append, ← zV_app, show 0 + (len0 - k) + k = len0 by omega] at O3
  have HOW := Lib.hid O3
  obtain ⟨q, c, hv⟩ := own_slice O3
  subst hv
  obtain ⟨m1, m2, m3, m4, m5⟩ := rdz_own O3
  clear O3 O2 O1 B1 OW BW HL1 HL2 HW1 HW2
  have HRL := Lib.hid (w0.rd.on B2.out)
  have G2 := Lib.hid (HON.out _ _ HG.out B2.out)
  have hkz : k < z0.length := by rw [w0.size]; omega
  have c1 := rdz_news hb hcs B2.out k hkz
  have hmem : z0.getD k 0 ∈ z0 := by rw [getD_of hkz]; exact List.getElem_mem _
  have hyr := w0.rng _ hmem
  have hmr : ∀ y ∈ z0.drop k ++ z0.take k, -9223372036854775808 ≤ y ∧ y ≤ 9223372036854775807 := fun y hy => w0.rng y (by
    rcases List.mem_append.1 hy with h | h
    · exact List.mem_of_mem_drop h
    · exact List.mem_of_mem_take h)
  have I1 := Lib.hid (HIN.out (some ⟨b, o, none⟩) len0 cap0 z0 (z0.getD k 0) w2 G2.out w0.size w0.rng (by omega) w0.fits w0.most w0.nil hyr.1 hyr.2 HRL.out)
  rw [in_mem hmem] at I1
  have I2 := Lib.hid (fun (V : World) (bl : Below w2.heap.size w2 V) => HIN.out q len0 c (z0.drop k ++ z0.take k) a1 V (HON.out _ _ G2.out bl) m1 hmr (by omega) m3 m4 m5 l0 l1 (m2.on bl))
  rw [in_rot _ _ _ (fun e => by rw [e] at hkz; simp at hkz)] at I2
  have I3 := Lib.hid (fun (V : World) (bl : Below w2.heap.size w2 V) => HIN.out (some ⟨b, o, none⟩) len0 cap0 z0 a1 V (HON.out _ _ G2.out bl) w0.size w0.rng (by omega) w0.fits w0.most w0.nil l0 l1 (HRL.out.on bl))
  have I4 := Lib.hid (fun (V : World) (q' : Option Addr) (n' c' : Nat) (hn' : n' = len0 + 1) (bl : Below w.heap.size w V) (ho : V.ownsRow w.heap.size 3 1 (.slice q' n' c') n' (zV (z0.drop k ++ z0.take k ++ [a1]))) => HIN.out q' n' c' (z0.drop k ++ z0.take k ++ [a1]) a1 V (HON.out _ _ HG.out bl) (rdz_own ho).1 (fun y hy => by
    rcases List.mem_append.1 hy with h | h
    · exact hmr y h
    · rw [List.mem_singleton.1 h]; exact ⟨l0, l1⟩) (by omega) (rdz_own ho).2.2.1 (rdz_own ho).2.2.2.1 (rdz_own ho).2.2.2.2 l0 l1 (rdz_own ho).2.1)
  rw [in_mem (List.mem_append_right _ (List.mem_singleton.2 rfl))] at I4
  obtain ⟨r, hr⟩ : ∃ r, r = inR z0 a1 := ⟨_, rfl⟩
  rw [← hr] at I2 I3
  obtain ⟨y, hy⟩ : ∃ y, y = z0.getD k 0 := ⟨_, rfl⟩
  rw [← hy] at I1 c1
  have rr : (r == r) = true := by simp
  clear hr hy m1 m2 m3 m4 m5 hmem hyr hmr hkz HIN
  go_wp2_with (first
    | (go_at_call 18; ((with_reducible refine (I1.out).mono ?_); rintro e v3 ⟨rfl, b3⟩))
    | (go_at_call 18; ((with_reducible refine (I2.out _ b3).mono ?_); rintro e v4 ⟨rfl, b4⟩); have b34 := thn b3 b4)
    | (go_at_call 18; ((with_reducible refine (I3.out _ b34).mono ?_); rintro e v5 ⟨rfl, b5⟩); have b35 := thn b34 b5; have O5 := ownOn8 HOW.out b35; have B5 := thn B2.out b35)
    | ((with_reducible show wpList _ _ _ (⟨some 57, _, _, _, _, _⟩ :: _) _ _)
       refine wpList_append8 (by first | rfl | simp [Region.wanted, yielded]) (.tmp 54) (.tmp 56) 33 rfl w.heap.size 3 i0 (.int .i64 0) 1 8 Tryd.underlying33 HI.out HZ0.out HZ1.out HZ2.out rfl (by omega) (.slice q len0 c) len0 (zV (z0.drop k ++ z0.take k)) rfl (O5.alloc _) ⟨v5.heap.size, 0, none⟩ 1 1 (zV [a1]) rfl rfl (news_one v5 a1) (zV_one _) (by unfold maxLen; omega) (by omega) (by have := B5.size; rw [World.size_alloc]; omega) ?_
       intro v6 w6 o6 g6
       rw [← zV_app] at o6
       have B6 := (B5.alloc B5.size (.cells #[.int .i64 a1] 3)).grown g6 (by have := B5.size; rw [World.size_alloc]; omega) (fun g hg => (O5.lt g hg).1)
       obtain ⟨q6, c6, hv6⟩ := own_slice o6
       subst hv6)
    | (go_at_call 18; ((with_reducible refine (I4.out _ _ _ _ rfl B6 o6).mono ?_); rintro e v7 ⟨rfl, b7⟩); have B7 := thn B6 b7; have G7 := HON.out _ _ HG.out B7)
    | (go_at_call 12; ((with_reducible refine (HA.out _ G7).mono ?_); rintro e v8 ⟨rfl, b8⟩); have B8 := thn B7 b8))
  go_ret
  exact ⟨by first | rfl | simp, B8⟩

set_option maxRecDepth 100000 in
theorem lifted (HC : ArchC GA8) (os : Os) (started : os.Started) (H : Type) (enc : TypeId × Value → H) :
    ReturnsInHanded {} Tryd.checked os 7 .any (fun w args => (Rows.archListsSpec.pre enc Tryd.prog Tryd.f7 [] false w args ∧ laidMetH Tryd.prog listed8 w) ∧ sizedMet enc Tryd.prog Tryd.f7 (OpenSpec.ofChange Rows.archListsSpec) false w args)
      (Rows.archListsSpec.post enc Tryd.prog Tryd.f7 false true false false) := by
  refine returnsInHanded_of_change_and (C := Tryd.checked) (X := fun w _ => laidMetH Tryd.prog listed8 w) (fun _ _ _ hh h => h.of_heap hh) ownKnob_none started (by kernel_rfl) Tryd.func7
    (ChangeSpec.witness_shaped (enc := enc) (C := Tryd.checked) (os := os) (X := fun w _ => laidMetH Tryd.prog listed8 w) false (World.doorLaid Tryd.prog 4000 os) #[.slice none 0 0, .int .i64 0, .int .i64 0] 8 rfl (World.shaped_of_RefB (by kernel_rfl) (by kernel_rfl)) (by kernel_rfl) (by kernel_rfl) (by kernel_rfl) (door_met8 os _)) ?_
  intro W base args ds gs before hval0 hW _ _ hL _
  have hG : GA8 W := of_laid8 hL
  have hval : ∀ (j : Nat) t v, Tryd.f7.params[j]? = some t → args[j]? = some v → Value.okWide Tryd.prog W .any base t v := hval0
  have hW' := hW
  obtain ⟨p, q, hA0, hV, rfl, hfz, hnd⟩ := hW
  have hA : DataW.TrodAll enc Tryd.prog W 0 (fun _ => true) true Tryd.f7.params.toList args.toList ds p := hA0
  rw [Tryd.params7] at hA hval
  obtain ⟨v0, vs0, d0, ds0, p0, q0, hargs, rfl, rfl, h0, r0⟩ := trodAll_cons hA
  obtain ⟨v1, vs1, d1, ds1, p1, q1, rfl, rfl, rfl, h1, r1⟩ := trodAll_cons r0
  obtain ⟨v2, vs2, d2, ds2, p2, q2, rfl, rfl, rfl, h2, r2⟩ := trodAll_cons r1
  obtain ⟨rfl, rfl, rfl⟩ := trodAll_nil r2
  obtain rfl : args = #[v0, v1, v2] := by cases args; simp_all
  obtain ⟨rfl, rfl⟩ := trodVars_none hV
  obtain ⟨a0, len0, cap0, rfl⟩ := okWide_slice Tryd.underlying33 (hval 0 33 v0 rfl rfl)
  have k0 := h0
  have lt0 : ∀ x ∈ p0, x.block < W.heap.size := by obtain ⟨m, hm⟩ := k0; exact DataW.trod_lt m _ _ _ hm
  obtain ⟨z0, w0⟩ := ints_open h0 lt0
  obtain ⟨a1, rfl, rfl, rfl, w1⟩ := open_int Tryd.underlying3 (hval 1 3 v1 rfl rfl) h1
  obtain ⟨a2, rfl, rfl, rfl, w2⟩ := open_int Tryd.underlying3 (hval 2 3 v2 rfl rfl) h2
  clear hA0 hval0
  refine (walk HC a0 len0 cap0 z0 a1 a2 W hG w0 w1 w2).mono fun e W' ⟨he, bel⟩ => ?_
  subst he
  exact ⟨_, rfl, _, _, _, [], _, [], hW', trodAll_mk1 (shut_bool Tryd.underlying4 _), (trodAll_cons_mk (Below.trod laidOut (by kernel_rfl) (of_decide_eq_true (by kernel_rfl)) k0 bel lt0) (trodAll_cons_mk (shut_int Tryd.underlying3 w1) (trodAll_cons_mk (shut_int Tryd.underlying3 w2) trodAll_mk0))), rfl, bel.frame _, fun h => by cases h⟩

theorem over (HC : ArchC GA8) : Rows.archListsRow.holds Tryd.pinned (OpenSpec.ofChange Rows.archListsSpec) :=
  OpenClaim.holds_of_wide 7 Tryd.f7 rfl rfl rfl rfl rfl rfl rfl ⟨rfl, rfl, rfl, rfl, rfl⟩ rfl rfl rfl rfl rfl (by kernel_rfl) Tryd.func7 (by kernel_rfl)
    (of_decide_eq_true (by kernel_rfl)) (by unfold Func.isWrapper; first | (rw [if_pos (by decide +kernel)]; kernel_rfl) | (rw [if_neg (by decide +kernel)]; exact ⟨rfl, rfl⟩))
    (fun os started H enc _ => lifted HC os started H enc)

/-- The row's statement. -/
theorem row_holds : Rows.ArchListsSaid := over archC
/-- The statement: the row, its table tied to the program's text. -/
theorem proved : Rows.ArchListsCardSaid :=
  Claim7.holds_tied_plain_at .later [] [.data] true Rows.archListsCard.stood.harness Rows.archListsCard.stood.looks
    row_holds (fun _ h => by cases h) (by kernel_rfl) (fun _ h => by cases h) archLists_row_tie rfl ⟨rfl, rfl⟩ (by kernel_rfl) rfl
    (fun f fn hf hfn => by
      obtain rfl : f = 7 := Option.some.inj ((show Tryd.prog.funcNamed "vestibule/vestibulelaw08.ArchLists" = some 7 by kernel_rfl).symm.trans hf) |>.symm
      obtain rfl : fn = Tryd.f7 := (Option.some.inj (Tryd.func7.symm.trans hfn)).symm
      exact ⟨by kernel_rfl, fun j t ht => by
        have hm : t ∈ Tryd.f7.params.toList := by simpa using Array.mem_of_getElem? ht
        have hall : (Tryd.f7.params.toList.all fun u => !Tryd.prog.wantsStandIn u) = true := by kernel_rfl
        exact (show Tryd.prog.wantsStandIn t = false by simpa using List.all_eq_true.1 hall t hm)⟩)
    (by kernel_rfl)
#print axioms proved
end Go.Proofs.YtjfoipjifjblmaaDoor.archLists
