/- What the document's own take and Take return: the list without a call, in new memory; a list that may not be as it is. Condition: a list of at most a million calls that can be read. What the document's own Take and Put return: the list without a call, with a call; a list that may not be as it is. Condition: a list of at most a million calls that can be read. -/
import Derived.Test.YtanifiobfbfehaaGreatDoorTk
import Derived.Deep.RegionWith
import Derived.Deep.RegionLaw
import Derived.Deep.MidRow
import Derived.BigRegion
import Derived.Test.YtanifiobfbfehaaGreatDoorTg
namespace Go.Proofs.YtanifiobfbfehaaGreatDoor
open Go.RowKit
set_option linter.unusedVariables false
set_option linter.unusedSimpArgs false
attribute [local go_sem ↓] Go.wp_at_zero Go.wp_at_succ

theorem owns_same16 {W W' : World} {B n s : Nat} {e : TypeId} {v : Value} {xs : List Value} (h : W.ownsRow B e s v n xs) (hk : ∀ (g : Nat) (c : Array Value) (fz : Nat × Nat), B ≤ g → W.heap[g]? = some (.cells c e fz) → W'.heap[g]? = some (.cells c e fz)) : W'.ownsRow B e s v n xs :=
  ⟨h.1, h.2.imp id (fun ⟨g, cap, cur, hv, hB, hg, rest⟩ => ⟨g, cap, cur, hv, hB, hk g _ _ hB hg, rest⟩)⟩
theorem owns_low16 {W : World} {B B' n s : Nat} {e : TypeId} {v : Value} {xs : List Value} (h : W.ownsRow B e s v n xs) (hb : B' ≤ B) : W.ownsRow B' e s v n xs :=
  ⟨h.1, h.2.imp id (fun ⟨g, cap, cur, hv, hB, rest⟩ => ⟨g, cap, cur, hv, Nat.le_trans hb hB, rest⟩)⟩
theorem owns_on16 {W W' : World} {B n s : Nat} {e : TypeId} {v : Value} {xs : List Value} (h : W.ownsRow B e s v n xs) (b : Below W.heap.size W W') : W'.ownsRow B e s v n xs :=
  owns_same16 h fun g _ _ _ hg => (b.block g (Array.getElem?_eq_some_iff.1 hg).1).trans hg
/-- A list that grows: its box, and its row behind. -/
structure OutC (B b : Nat) (m : Nat) (v : Value) (P : List Cl) (W : World) : Prop where
  box : W.heap[b]? = some (.cells #[.int .u8 (m : Nat), v] 25 (0, 0))
  row : W.ownsRow B 71 2 v P.length (rowC encC P)
section
variable {B b m : Nat} {v : Value} {P : List Cl} {W : World}
theorem OutC.lt (h : OutC B b m v P W) : b < W.heap.size := (Array.getElem?_eq_some_iff.1 h.box).1
theorem OutC.x0 (h : OutC B b m v P W) : W.cell? ⟨b, 0, none⟩ = some (.int .u8 (m : Nat)) := (cell_of_row W b 0 _ _ (0, 0) h.box).trans rfl
theorem OutC.x1 (h : OutC B b m v P W) : W.cell? ⟨b, 1, none⟩ = some v := (cell_of_row W b 1 _ _ (0, 0) h.box).trans rfl
theorem OutC.frz (h : OutC B b m v P W) (j : Nat) : W.frozen? ⟨b, j, none⟩ = false := frozen_of_row W b j _ _ h.box
theorem OutC.on {W' : World} (h : OutC B b m v P W) (k : Below W.heap.size W W') : OutC B b m v P W' := ⟨(k.block b h.lt).trans h.box, owns_on16 h.row k⟩
theorem OutC.form (h : OutC B b m v P W) : ∃ q c, v = .slice q P.length c := by
  rcases h.row.2 with ⟨hv, h0⟩ | ⟨g, cap, cur, hv, _⟩
  · exact ⟨none, 0, by rw [hv, h0]⟩
  · exact ⟨_, _, hv⟩
theorem OutC.off (h : OutC B b m v P W) {g : Nat} {cs : Array Value} {fz : Nat × Nat} (hg : W.heap[g]? = some (.cells cs 71 fz)) : g ≠ b := fun e => by
  subst e
  rw [h.box] at hg
  injection hg with hg
  injection hg with _ e _
  exact absurd e (by decide)
theorem OutC.own (h : OutC B b m v P W) {k : Nat} (e : v.ownBlock = some k) : B ≤ k ∧ k ≠ b := by
  rcases h.row.2 with ⟨hv, _⟩ | ⟨g, cap, cur, hv, hB, hg, _⟩
  · rw [hv] at e; cases e
  · rw [hv] at e
    injection e with e
    subst e
    exact ⟨hB, h.off hg⟩
theorem OutC.put {wA : World} {v' : Value} {P' : List Cl} {c : Nat} (h : OutC B b m v P W) (hcB : c ≤ B) (hcb : c ≤ b) (hBW : B ≤ W.heap.size) (hg : W.grownBy wA v.ownBlock) (hO : wA.ownsRow B 71 2 v' P'.length (rowC encC P')) :
    wA.heap[b]? = some (.cells #[.int .u8 (m : Nat), v] 25 (0, 0)) ∧ OutC B b m v' P' (wA.setCell ⟨b, 1, none⟩ v') ∧ Below c W (wA.setCell ⟨b, 1, none⟩ v') := by
  have hb : wA.heap[b]? = some (.cells #[.int .u8 (m : Nat), v] 25 (0, 0)) := (hg.block b h.lt (fun e => (h.own e.symm).2 rfl)).trans h.box
  have hne : ∀ (g : Nat) (cs : Array Value) (fz : Nat × Nat), wA.heap[g]? = some (.cells cs 71 fz) → g ≠ b := fun g cs fz hg2 e => by
    subst e
    rw [hb] at hg2
    injection hg2 with hg2
    injection hg2 with _ e _
    exact absurd e (by decide)
  refine ⟨hb, ⟨?_, owns_same16 hO fun g cs fz hB hg2 => (heap_setCell_other wA ⟨b, 1, none⟩ g _ (hne g cs fz hg2)).trans hg2⟩, ?_⟩
  · simp [World.setCell, Array.getElem?_modify, hb]
  · exact ((Below.refl c W).grown hg (by have := h.lt; omega) (fun k e => Nat.le_trans hcB (h.own e).1)).setCell (p := ⟨b, 1, none⟩) hcb _
theorem encC_set : ∀ (l : List Cl) (i : Nat) (e : Cl), rowC encC (l.set i e) = ((rowC encC l).set (i * 2) (.string e.1)).set (i * 2 + 1) (.int .u32 (e.2 : Nat))
  | [], i, e => rfl
  | x :: r, 0, e => rfl
  | x :: r, i + 1, e => by
    show encC x ++ rowC encC (r.set i e) = ((encC x ++ rowC encC r).set ((i + 1) * 2) _).set ((i + 1) * 2 + 1) _
    have e1 : (i + 1) * 2 = (encC x).length + i * 2 := by show _ = 2 + _; omega
    rw [encC_set r i e, e1, Nat.add_assoc, List.set_append_right _ _ (by omega), List.set_append_right _ _ (by omega), Nat.add_sub_cancel_left, Nat.add_sub_cancel_left]
theorem swap_at (p t : List Cl) (d e : Cl) : ((p ++ d :: e :: t).set (p.length + 1) d).set p.length e = p ++ e :: d :: t := by
  rw [List.set_append_right _ _ (by omega), Nat.add_sub_cancel_left, List.set_append_right _ _ (by omega), Nat.sub_self]
  rfl
/-- Two neighbours of the row change places. -/
theorem OutC.swap {g N c5 : Nat} {p t : List Cl} {d e : Cl} (h : OutC B b m (.slice (some ⟨g, 0, none⟩) N c5) (p ++ d :: e :: t) W) {k J : Nat} (hk : k = p.length) (hJ : J = k + 1) {x y : Int} (hx : x = (d.2 : Nat)) (hy : y = (e.2 : Nat)) :
    OutC B b m (.slice (some ⟨g, 0, none⟩) N c5) (p ++ e :: d :: t) ((((W.setCell ⟨g, J * 2, none⟩ (.string d.1)).setCell ⟨g, J * 2 + 1, none⟩ (.int .u32 x)).setCell ⟨g, k * 2, none⟩ (.string e.1)).setCell ⟨g, k * 2 + 1, none⟩ (.int .u32 y)) := by
  have hg : g ≠ b := (h.own rfl).2
  have hN : N = (p ++ d :: e :: t).length := by
    obtain ⟨q, c, hq⟩ := h.form
    injection hq
  subst hN
  have s1 := (h.row.stored (J * 2) (.string d.1)).1
  have s2 := (s1.stored (J * 2 + 1) (.int .u32 x)).1
  have s3 := (s2.stored (k * 2) (.string e.1)).1
  have s4 := (s3.stored (k * 2 + 1) (.int .u32 y)).1
  refine ⟨?_, ?_⟩
  · rw [heap_setCell_other _ _ _ _ (fun e => hg e.symm), heap_setCell_other _ _ _ _ (fun e => hg e.symm), heap_setCell_other _ _ _ _ (fun e => hg e.symm), heap_setCell_other _ _ _ _ (fun e => hg e.symm)]
    exact h.box
  · subst hk hJ hx hy
    rw [← swap_at p t d e, encC_set, encC_set, List.length_set, List.length_set]
    exact s4
end
theorem heap_old16 (w : World) (o p : Obj) : ((w.alloc o).alloc p).heap[w.heap.size]? = some o := by
  rw [Below.heap_alloc _ _ _ (by rw [World.size_alloc]; exact Nat.lt_succ_self _)]; exact heap_alloc_new w _
theorem heap_new16 (w : World) (o p : Obj) : ((w.alloc o).alloc p).heap[w.heap.size + 1]? = some p := by
  rw [← World.size_alloc w o]; exact heap_alloc_new _ _
theorem there16 {V : World} {g : Nat} {u v : Value} (h : V.heap[g]? = some (.cells #[u, v] 25 (0, 0))) : V.there g 0 2 := fun j hj => by
  refine ⟨?_, frozen_of_row _ _ _ _ _ h⟩
  rw [cell_of_row _ _ (0 + j) _ _ (0, 0) h]
  match j, hj with
  | 0, _ => rfl
  | 1, _ => rfl
  | j + 2, hj => omega
theorem one16 (m : Int) (q : Option Addr) (n c : Nat) : (#[.int .u8 m, .slice q n c] : Array Value).all (·.oneCell') = true := by kernel_rfl
theorem below_setCells16 {w0 : World} {b : Nat} (hb : w0.heap.size ≤ b) : ∀ (vs : List Value) (o : Nat) (w : World), Below w0.heap.size w0 w → Below w0.heap.size w0 (w.setCells b o vs)
  | [], o, w, h => h
  | v :: vs, o, w, h => below_setCells16 hb vs (o + 1) (w.setCell ⟨b, o, none⟩ v) (h.setCell hb v)

/-- A list, stored into the result's own cells. -/
theorem retL16 {w V : World} {g : Nat} {u v : Value} (h : V.heap[g]? = some (.cells #[u, v] 25 (0, 0))) (hB : Below w.heap.size w V) (hg : w.heap.size ≤ g) (m : Int) (q : Option Addr) (n c : Nat) :
    (loadVar 25 ⟨g, 0, none⟩).run Tryz.prog (V.setCells g 0 [.int .u8 m, .slice q n c]) = .ok (.agg #[.int .u8 m, .slice q n c]) (V.setCells g 0 [.int .u8 m, .slice q n c]) ∧ Below w.heap.size w (V.setCells g 0 [.int .u8 m, .slice q n c]) := by
  have hinf : (Tryz.prog.info? 25).map (·.size) = some 2 := by kernel_rfl
  exact ⟨run_loadVar_mid (P := Tryz.prog) _ g 0 25 [.int .u8 m, .slice q n c] _ (World.rangeAt_setCells_same V g 0 [.int .u8 m, .slice q n c] (there16 h)) Tryz.underlying25 rfl hinf, below_setCells16 hg _ _ _ hB⟩
theorem heap_setCells16 (V : World) (g k : Nat) (hk : k ≠ g) : ∀ (l : List Value) (o : Nat), (V.setCells g o l).heap[k]? = V.heap[k]?
  | [], o => rfl
  | x :: l, o => by
    show ((V.setCell ⟨g, o, none⟩ x).setCells g (o + 1) l).heap[k]? = _
    rw [heap_setCells16 _ g k hk l (o + 1)]
    exact heap_setCell_other V ⟨g, o, none⟩ k x hk
theorem results_one16 {fn : Func} {tmps : Array Value} {w : World} {t : Nat} {ty : TypeId} {p : Addr} {v : Value} (hr : fn.results = #[.cell t ty]) (ha : tmps.getD t undef = .pointer (some p)) (hl : (loadVar ty p).run Tryz.prog w = .ok v w) : (results fn tmps).run Tryz.prog w = .ok v w := by
  have ha' : tmps[t]?.getD undef = .pointer (some p) := by simpa using ha
  simp [results, hr, asAddr, ha', hl]
theorem below16 (w : World) (o : Obj) : Below w.heap.size w (w.alloc o) := (Below.refl _ _).alloc (Nat.le_refl _) o
theorem take_step {L : List Cl} {k : Nat} {c : Cl} (h : L[k]? = some c) (s : ByteArray) : takeC (L.take (k + 1)) s = if c.1 = s then takeC (L.take k) s else takeC (L.take k) s ++ [c] := by
  unfold takeC
  rw [List.take_add_one, h, List.filter_append]
  by_cases e : c.1 = s
  · rw [if_pos e, show (some c).toList.filter _ = [] from List.filter_cons_of_neg (by simpa using e)]
    exact List.append_nil _
  · rw [if_neg e, show (some c).toList.filter _ = [c] from List.filter_cons_of_pos (by simpa using e)]
theorem take_le (L : List Cl) (s : ByteArray) : (takeC L s).length ≤ L.length := List.length_filter_le _ _
/-- A list as it is returned: new memory. -/
abbrev NewL (w w' : World) (e : Ending) (m : Nat) (P : List Cl) : Prop := ∃ q c, e = .returned (lsV m q P.length c) ∧ w'.ownsRow w.heap.size 71 2 (.slice q P.length c) P.length (rowC encC P) ∧ Below w.heap.size w w'
set_option maxRecDepth 100000 in
set_option maxHeartbeats 16000000 in
theorem reftake (m : Nat) (q : Option Addr) (n cap : Nat) (L : List Cl) (s : ByteArray) (w : World) (hl : L.length = n) (hn : n ≤ 1000000) (h : LsAt w q L) : Calls Tryz.prog 48 #[lsV m q n cap, .string s] w fun e w' => NewL w w' e m (takeC L s) := by
  obtain ⟨i0, hi0, hz0, hz1, hz2⟩ := info_parts cl_info
  have HI := Lib.hid hi0
  have HZ0 := Lib.hid hz0
  have HZ1 := Lib.hid hz1
  have HZ2 := Lib.hid hz2
  unfold NewL lsV
  have HL := Lib.hid hl
  obtain ⟨R, hR⟩ : ∃ R, R = takeC L s := ⟨_, rfl⟩
  obtain ⟨N, hN⟩ : ∃ N, N = R.length := ⟨_, rfl⟩
  have HNN := Lib.hid hN
  rw [← hR, ← hN]
  obtain ⟨W, hW⟩ : ∃ W, W = ((w.alloc (.cells #[.int .u8 (m : Nat), .slice q n cap] 25)).alloc (.cells #[.int .u8 0, .slice none 0 0] 25)).alloc (.cells #[.int .u8 (m : Nat), .slice none 0 0] 25) := ⟨_, rfl⟩
  obtain ⟨c0, hc0⟩ : ∃ c, c = w.heap.size := ⟨_, rfl⟩
  have BB := Lib.hid (show Below w.heap.size w W from hW ▸ (((Below.refl _ _).alloc (Nat.le_refl _) _).alloc (by simp) _).alloc (by simp; omega) _)
  have WS : W.heap.size = w.heap.size + 3 := by rw [hW]; simp
  have HR := Lib.hid h
  have hp0 : W.heap[w.heap.size]? = some (.cells #[.int .u8 (m : Nat), .slice q n cap] 25 (0, 0)) := by
    rw [hW, Below.heap_alloc _ _ _ (by rw [World.size_alloc, World.size_alloc]; omega), heap_old16]
  have hp1 : W.heap[w.heap.size + 1]? = some (.cells #[.int .u8 0, .slice none 0 0] 25 (0, 0)) := by
    rw [hW, Below.heap_alloc _ _ _ (by rw [World.size_alloc, World.size_alloc]; omega), heap_new16]
  have hp2 : W.heap[w.heap.size + 2]? = some (.cells #[.int .u8 (m : Nat), .slice none 0 0] 25 (0, 0)) := by
    rw [hW, show w.heap.size + 2 = ((w.alloc (.cells #[.int .u8 (m : Nat), .slice q n cap] 25)).alloc (.cells #[.int .u8 0, .slice none 0 0] 25)).heap.size by simp]
    exact heap_alloc_new _ _
  have O0 := Lib.hid (show OutC (w.heap.size + 3) (w.heap.size + 2) m (.slice none 0 0) (takeC (L.take 0) s) W from ⟨hp2, World.ownsRow_nil _ _ _ _⟩)
  have P1 := Lib.hid hp1
  have WSH := Lib.hid WS
  have HM := Lib.hid (show ∀ (V : World) (v : Value), OutC (w.heap.size + 3) (w.heap.size + 2) m v (takeC (L.take n) s) V → OutC (w.heap.size + 3) (w.heap.size + 2) m v R V from fun V v h => by rw [List.take_of_length_le (by omega), ← hR] at h; exact h)
  have HIN := Lib.hid (show (Tryz.prog.info? 25).map (·.size) = some 2 by kernel_rfl)
  have hq1 := (cell_of_row W w.heap.size 1 _ _ (0, 0) hp0).trans (show _ = some (Value.slice q n cap) from rfl)
  obtain ⟨mi, hmi⟩ : ∃ x : Int, x = (m : Nat) := ⟨_, rfl⟩
  have HMI := Lib.hid hmi
  rw [← hmi] at hW ⊢
  clear h hl hi0 hz0 hz1 hz2 hp0 hp1 hp2 WS hmi hR hN
  go_enter Tryz.func48, Tryz.ntmps48
  go_wp2
  rw [← hW]
  clear hW
  go_loopw [6] (fun v6 wr => ∃ (k : Nat) (v : Value), k ≤ n ∧ v6 = .int .i64 k ∧ Hid (OutC (w.heap.size + 3) (w.heap.size + 2) m v (takeC (L.take k) s) wr) ∧ Hid (Below (w.heap.size + 2) W wr)) (fun v6 _ => n - (intOf v6).toNat)
  case atStart => exact ⟨0, _, by omega, rfl, O0, Lib.hid (Below.refl _ _)⟩
  case round =>
    obtain ⟨k, v, hk, rfl, PO, PB⟩ := hrel
    obtain ⟨V, rfl⟩ : ∃ wo : World, wo = wr := ⟨_, rfl⟩
    have hws := WSH.out
    have hsz := PB.out.size
    have r1 := (PB.out.cell (p := ⟨w.heap.size, 1, none⟩) (show w.heap.size < w.heap.size + 2 by omega)).trans hq1
    have BV := BB.out.trans (PB.out.mono (show w.heap.size ≤ w.heap.size + 2 by omega))
    by_cases hlt : k < n
    · have hx : L[k]? = some (L[k]'(by rw [HL.out]; exact hlt)) := List.getElem?_eq_getElem _
      obtain ⟨⟨s', a⟩, he⟩ : ∃ e, e = L[k]'(by rw [HL.out]; exact hlt) := ⟨_, rfl⟩
      rw [← he] at hx
      obtain ⟨g, o, rfl, c0, c1⟩ := (HR.out.on BV) k _ hx
      simp only at c0 c1
      have HS := Lib.hid (take_step hx s)
      have k1 : (k : Int) < n := by omega
      have k0 : (0 : Int) ≤ k := by omega
      have hpl : (takeC (L.take k) s).length ≤ k := Nat.le_trans (take_le _ _) (by rw [List.length_take]; omega)
      obtain ⟨P, hP⟩ : ∃ P, P = takeC (L.take k) s := ⟨_, rfl⟩
      rw [← hP] at PO HS hpl
      clear hx he hP
      by_cases hs : s' = s
      · have e1 : (s'.toList == s.toList) = true := by rw [hs]; simp
        have e2 : (s'.toList != s.toList) = false := by rw [hs]; simp
        have HS2 := Lib.hid (show takeC (L.take (k + 1)) s = P by rw [HS.out, if_pos hs])
        clear HS hs
        go_wp2
        go_roundw
        case rel => exact ⟨k + 1, v, by omega, by go_num, by rw [HS2.out]; exact PO, PB⟩
        case measure => first | (simp [intOf]; done) | (simp [intOf]; omega)
      · have e1 : (s'.toList == s.toList) = false := beq_eq_false_iff_ne.2 (fun e => hs (list_of_bytes10 e))
        have e2 : (s'.toList != s.toList) = true := bne_iff_ne.2 (fun e => hs (list_of_bytes10 e))
        have HS2 := Lib.hid (show takeC (L.take (k + 1)) s = P ++ [(s', a)] by rw [HS.out, if_neg hs])
        have x1 := PO.out.x1
        have f1 := PO.out.frz 1
        have b2 := PO.out.lt
        obtain ⟨ai, hai⟩ : ∃ x : Int, x = (a : Nat) := ⟨_, rfl⟩
        have HAI := Lib.hid hai
        rw [← hai] at c1
        clear HS hs hai
        go_wp2
        go_region_law ((refine step_append_lies _ (by rfl) (.tmp 26) (.tmp 32) 23 (by rfl) (w.heap.size + 3) 71 i0 _ 2 24 Tryz.underlying23 HI.out HZ0.out HZ1.out HZ2.out rfl (by omega) v P.length (rowC encC P) (by rfl) (PO.out.row.alloc _).drew ⟨V.heap.size, 0, none⟩ 1 1 [.string s', .int .u32 ai] (by rfl) rfl (news_row V _ _) (fun u hu => by simp only [List.mem_cons, List.mem_nil_iff, or_false] at hu; rcases hu with rfl | rfl <;> rfl) (by omega) (by unfold maxLen; omega) (by omega) (by show _ ≤ (V.alloc _).heap.size; rw [World.size_alloc]; omega) (V.heap.size + 1) (by show (V.alloc _).heap.size = _; rw [World.size_alloc]) ?_); intro g6 c6 W6 o6 h6 e6 l6; obtain ⟨q1, q2, q3⟩ := OutC.put (c := w.heap.size + 2) (P' := P ++ [(s', a)]) (PO.out.on ((below16 V _).drew)) (by omega) (by omega) (by show _ ≤ (V.alloc _).heap.size; rw [World.size_alloc]; omega) h6 (by rw [List.length_append, List.length_singleton, rowC_app, rowC_one1]; show W6.ownsRow _ _ _ _ _ (_ ++ [.string s', .int .u32 (a : Nat)]); rw [← HAI.out]; exact o6); have c2 := (cell_of_row W6 (w.heap.size + 2) 1 _ _ (0, 0) q1).trans (show _ = some v from rfl); have f2 := frozen_of_row W6 (w.heap.size + 2) 1 _ _ q1; have Q2 := Lib.hid q2; have Q3 := Lib.hid q3; clear o6 h6 e6 l6 q1 q2 q3)
        all_goals
          go_wp2_with fail
          go_roundw
          case rel => exact ⟨k + 1, _, by omega, by go_num, by rw [HS2.out]; exact Q2, Lib.hid (PB.out.trans ((below16 V _).drew.mono (by omega) |>.trans Q3.out))⟩
          case measure => first | (simp [intOf]; done) | (simp [intOf]; omega)
    · obtain rfl : k = n := by omega
      have k1 : ¬ (k : Int) < k := by omega
      have HO := Lib.hid (HM.out V v PO.out)
      obtain ⟨qv, cv, rfl⟩ := PO.out.form
      obtain ⟨qw, cw, hqc⟩ := HO.out.form
      injection hqc with hq hn2 hc
      subst hq hc
      have x1 := PO.out.x1
      rw [hn2, ← HNN.out] at x1
      have x0 : V.cell? ⟨w.heap.size + 2, 0, none⟩ = some (.int .u8 mi) := by rw [HMI.out]; exact PO.out.x0
      have F0 := Lib.hid (show V.heap[w.heap.size + 1]? = _ from (PB.out.block _ (by omega)).trans P1.out)
      obtain ⟨hl, hb3⟩ := retL16 F0.out BV (by omega : w.heap.size ≤ w.heap.size + 1) mi qv N cv
      have HB3 := Lib.hid hb3
      have OR := Lib.hid (show (V.setCells (w.heap.size + 1) 0 [.int .u8 mi, .slice qv N cv]).ownsRow w.heap.size 71 2 (.slice qv N cv) N (rowC encC R) from by
        have h1 := HO.out.row
        rw [hn2, ← HNN.out] at h1
        have h2 := owns_same16 h1 (W' := V.setCells (w.heap.size + 1) 0 [.int .u8 mi, .slice qv N cv]) (fun g cs fz hB hg => (heap_setCells16 V _ _ (by omega) _ _).trans hg)
        exact owns_low16 h2 (by omega))
      clear hn2
      go_wp2_with ((with_reducible show wpList _ _ _ (⟨none, .store 25 (.tmp 4) (.tmp 35), _, _, _, _⟩ :: _) _ _)
                   refine wpList_store_mid rfl 25 (.tmp 4) (.tmp 35) rfl (w.heap.size + 1) 0 #[.int .u8 mi, .slice qv N cv] rfl rfl (there16 F0.out) HIN.out (one16 _ _ _ _) ?_
                   show wpList _ _ _ _ _ (V.setCells (w.heap.size + 1) 0 [.int .u8 mi, .slice qv N cv])
                   generalize V.setCells (w.heap.size + 1) 0 [.int .u8 mi, .slice qv N cv] = w3 at hl HB3 OR ⊢)
      (try simp only [Exit.inBlock, Exit.then])
      refine bodyPost_ret (v := .agg #[.int .u8 mi, .slice qv N cv]) (results_one16 Tryz.results48 ?_ hl) rfl ⟨qv, cv, rfl, OR.out, HB3.out⟩
      rfl
end Go.Proofs.YtanifiobfbfehaaGreatDoor
namespace Go.Proofs.YtanifiobfbfehaaGreatDoor
open Go.RowKit
set_option linter.unusedVariables false
set_option linter.unusedSimpArgs false
attribute [local go_sem ↓] Go.wp_at_zero Go.wp_at_succ

/-- A list as it is returned: new memory. -/
abbrev NewL2 (w w' : World) (e : Ending) (m : Nat) (P : List Cl) : Prop := ∃ q n c, e = .returned (lsV m q n c) ∧ n = P.length ∧ w'.ownsRow w.heap.size 71 2 (.slice q n c) n (rowC encC P) ∧ Below w.heap.size w w'
theorem put_back {L : List Cl} (h : Asc16 L) (s : ByteArray) (a : Nat) : putC L s a = (backC (s, a) (takeC L s).reverse).reverse := by
  have e := back_ins s a (takeC L s).reverse (by rw [List.reverse_reverse]; exact asc_take h s) (by rw [List.reverse_reverse, find_take, if_pos rfl])
  rw [e, List.reverse_reverse]; rfl
theorem back_yes (c d : Cl) (p : List Cl) (h : lt16 c.1 d.1 = true) : (backC c (p ++ [d]).reverse).reverse = (backC c p.reverse).reverse ++ [d] := by
  rw [List.reverse_append]
  show (backC c (d :: p.reverse)).reverse = _
  unfold backC
  rw [if_pos h, List.reverse_cons]
  cases p.reverse <;> rfl
theorem back_no (c d : Cl) (p : List Cl) (h : lt16 c.1 d.1 = false) : (backC c (p ++ [d]).reverse).reverse = p ++ [d, c] := by
  rw [List.reverse_append]
  show (backC c (d :: p.reverse)).reverse = _
  unfold backC
  rw [if_neg (by rw [h]; exact Bool.noConfusion)]
  simp
set_option maxRecDepth 100000 in
set_option maxHeartbeats 32000000 in
theorem refPut_yes (m : Nat) (q : Option Addr) (n cap : Nat) (L : List Cl) (s : ByteArray) (a : Nat) (w : World) (hl : L.length = n) (hn : n ≤ 1000000) (ha : ∀ c ∈ L, c.2 < 4294967296) (h : LsAt w q L) (hm : mayR knownR m L = true) : Calls Tryz.prog 47 #[lsV m q n cap, .string s, .int .u32 (a : Nat)] w fun e w' => NewL2 w w' e m (putC L s a) := by
  have HIN := Lib.hid (show (Tryz.prog.info? 25).map (·.size) = some 2 by kernel_rfl)
  unfold NewL2 lsV
  obtain ⟨W, hW⟩ : ∃ W, W = (w.alloc (.cells #[.int .u8 (m : Nat), .slice q n cap] 25)).alloc (.cells #[.int .u8 0, .slice none 0 0] 25) := ⟨_, rfl⟩
  have BB := Lib.hid (show Below w.heap.size w W from hW ▸ ((Below.refl _ _).alloc (Nat.le_refl _) _).alloc (by rw [World.size_alloc]; omega) _)
  have WS : W.heap.size = w.heap.size + 2 := by rw [hW, World.size_alloc, World.size_alloc]
  have hp0 : W.heap[w.heap.size]? = some (.cells #[.int .u8 (m : Nat), .slice q n cap] 25 (0, 0)) := by rw [hW, heap_old16]
  have hp1 : W.heap[w.heap.size + 1]? = some (.cells #[.int .u8 0, .slice none 0 0] 25 (0, 0)) := by rw [hW, heap_new16]
  have HY := Lib.hid (fun (V : World) (b : Below W.heap.size W V) => refMay m q n cap L V hl hn ha (h.on (thn16 BB.out b)))
  have HT := Lib.hid (fun (V : World) (b : Below W.heap.size W V) => reftake m q n cap L s V hl hn (h.on (thn16 BB.out b)))
  have HR := Lib.hid h
  have HL := Lib.hid hl
  obtain ⟨mi, hmi⟩ : ∃ x : Int, x = (m : Nat) := ⟨_, rfl⟩
  have HMI := Lib.hid hmi
  unfold NewL lsV at HT
  unfold lsV at HY
  rw [← hmi] at hW hp0 HY HT ⊢
  have P0 := Lib.hid hp0
  have P1 := Lib.hid hp1
  have WSH := Lib.hid WS
  have HWW := Lib.hid hW
  clear hW
  obtain ⟨ai, hai⟩ : ∃ x : Int, x = (a : Nat) := ⟨_, rfl⟩
  have HAI := Lib.hid hai
  rw [← hai]
  obtain ⟨i0, hi0, hz0, hz1, hz2⟩ := info_parts cl_info
  have HI := Lib.hid hi0
  have HZ0 := Lib.hid hz0
  have HZ1 := Lib.hid hz1
  have HZ2 := Lib.hid hz2
  rw [hm] at HY
  have hpb := put_back (may_iff.1 hm).asc s a
  obtain ⟨P, hP⟩ : ∃ P, P = takeC L s := ⟨_, rfl⟩
  have hPn : P.length ≤ 1000000 := by rw [hP]; exact Nat.le_trans (take_le _ _) (by omega)
  obtain ⟨R, hR⟩ : ∃ R, R = putC L s a := ⟨_, rfl⟩
  rw [← hP, ← hR] at hpb
  rw [← hP] at HT
  rw [← hR]
  obtain ⟨N, hN⟩ : ∃ N, N = P.length := ⟨_, rfl⟩
  have HNN := Lib.hid hN
  have HPB := Lib.hid hpb
  rw [← hN] at HT hPn
  clear h hl hn ha hp0 hp1 WS hmi hm hR hN hP hpb hai hi0 hz0 hz1 hz2
  go_enter Tryz.func47, Tryz.ntmps47
  go_wp2_with (first
    | (go_at_call 41; ((with_reducible refine (HY.out _ (by rw [← HWW.out]; exact Below.refl _ _)).mono ?_); rintro e v1 ⟨rfl, b1⟩); rw [← HWW.out] at b1; have B1 := Lib.hid b1; have z0 := (cell_of_row v1 w.heap.size 0 _ _ (0, 0) ((b1.block _ (by have := WSH.out; omega)).trans P0.out)).trans (show _ = some (Value.int .u8 mi) from rfl); have z1 := (cell_of_row v1 w.heap.size 1 _ _ (0, 0) ((b1.block _ (by have := WSH.out; omega)).trans P0.out)).trans (show _ = some (Value.slice q n cap) from rfl); skip; clear b1)
    | (go_at_call 48
       (with_reducible refine (HT.out _ B1.out).mono ?_)
       rintro e v2 ⟨q2, c2, rfl, o2, b2⟩
       have B2 := Lib.hid (thn16 B1.out b2)
       have S12 := Lib.hid b2.size
       have O2 := Lib.hid o2
       clear o2 b2)
    | (at_builtin
       refine wpList_append_own _ rfl (.tmp 17) (.tmp 21) 23 rfl v1.heap.size 71 i0 _ 2 24 Tryz.underlying23 HI.out HZ0.out HZ1.out HZ2.out rfl (by omega) (.slice q2 N c2) N (rowC encC P) rfl ((O2.out.alloc _).alloc _) ⟨v2.heap.size + 1, 0, none⟩ 1 1 [.string s, .int .u32 ai] rfl rfl (by rw [show v2.heap.size + 1 = (v2.alloc (.cells #[.int .u8 mi, .slice q2 N c2] 25)).heap.size by rw [World.size_alloc]]; exact news_row _ _ _) (fun u hu => by simp only [List.mem_cons, List.mem_nil_iff, or_false] at hu; rcases hu with rfl | rfl <;> rfl) (by unfold maxLen; omega) (by omega) (by have := S12.out; rw [World.size_alloc, World.size_alloc]; omega) ?_
       intro v5 w5 o5 hg5 _
       obtain ⟨q1, q3, q4⟩ := OutC.put (c := W.heap.size) (B := v1.heap.size) (P' := P ++ [(s, a)]) (show OutC v1.heap.size v2.heap.size m (.slice q2 N c2) P ((v2.alloc (.cells #[.int .u8 mi, .slice q2 N c2] 25)).alloc (.cells #[.string s, .int .u32 ai] 71)) from ⟨by rw [heap_old16, HMI.out], by rw [← HNN.out]; exact (O2.out.alloc _).alloc _⟩) B1.out.size B2.out.size (by have := S12.out; rw [World.size_alloc, World.size_alloc]; omega) hg5 (by rw [List.length_append, List.length_singleton, rowC_app, rowC_one1, ← HNN.out]; show w5.ownsRow _ _ _ _ _ (_ ++ [.string s, .int .u32 (a : Nat)]); rw [← HAI.out]; exact o5)
       have c2 := (cell_of_row w5 v2.heap.size 1 _ _ (0, 0) q1).trans (show _ = some (Value.slice q2 N c2) from rfl)
       have f2 := frozen_of_row w5 v2.heap.size 1 _ _ q1
       obtain ⟨g5, c5, hv5, hgB, hgl⟩ := o5.form (by omega)
       subst hv5
       have HGB := Lib.hid (show W.heap.size ≤ g5 from Nat.le_trans B1.out.size hgB)
       have Q3 := Lib.hid q3
       have Q4 := Lib.hid (B2.out.trans ((((below16 v2 _).trans ((below16 _ _).mono (by rw [World.size_alloc]; omega))).mono B2.out.size).trans q4))
       clear o5 hg5 q1 q3 q4))
  generalize hNE : N + 1 = NN at Q3 Q4 ⊢
  have HNE := Lib.hid hNE
  generalize w5.setCell ⟨v2.heap.size, 1, none⟩ (.slice (some ⟨g5, 0, none⟩) NN c5) = U0 at Q3 Q4 ⊢
  have e1 : (NN : Int) - 1 = N := by omega
  have hNn : (NN : Int) ≤ 1000001 := by omega
  have hNw : IntKind.i64.wrap ((NN : Int) - 1) = N := by rw [e1, IntKind.wrap_i64]; omega
  clear hNE
  go_loopw [8] (fun v8 wr => ∃ (j : Nat) (p t : List Cl), p.length = j ∧ j ≤ N ∧ v8 = .int .i64 j ∧ Hid (R = (backC (s, a) p.reverse).reverse ++ t) ∧ Hid (OutC v1.heap.size v2.heap.size m (.slice (some ⟨g5, 0, none⟩) NN c5) (p ++ (s, a) :: t) wr) ∧ Hid (Below W.heap.size W wr)) (fun v8 _ => (intOf v8).toNat)
  case atStart => exact ⟨N, P, [], HNN.out.symm, Nat.le_refl _, by first | rfl | go_num | (rw [e1]), Lib.hid (by rw [HPB.out, List.append_nil]), Q3, Q4⟩
  case round =>
    clear Q3 Q4
    obtain ⟨j, p, t, hpj, hj, rfl, HE, PO, PB⟩ := hrel
    obtain ⟨U, rfl⟩ : ∃ wo : World, wo = wr := ⟨_, rfl⟩
    have hNl : NN = (p ++ (s, a) :: t).length := by
      obtain ⟨q', c', hq'⟩ := PO.out.form
      injection hq'
    rcases List.eq_nil_or_concat p with rfl | ⟨p', d, rfl⟩
    · obtain rfl : 0 = j := hpj
      have HV := Lib.hid (show R = [] ++ (s, a) :: t from HE.out)
      have x1 := PO.out.x1
      clear HE
      go_wp2_with fail
      go_quiet (fail)
      have PB2 := Lib.hid (Go.below_drewN PB.out nq)
      have PO2 := Lib.hid (PO.out.on (Go.below_drewN (Below.refl _ _) nq))
      clear x1 hj hNl
      generalize U.drewN nq = U2 at PB2 PO2 ⊢
      have x1 := PO2.out.x1
      have x0 : U2.cell? ⟨v2.heap.size, 0, none⟩ = some (.int .u8 mi) := by rw [HMI.out]; exact PO2.out.x0
      have F0 := Lib.hid ((PB2.out.block (w.heap.size + 1) (by have := WSH.out; omega)).trans P1.out)
      obtain ⟨hl, hb3⟩ := retL16 F0.out (thn16 BB.out PB2.out) (by omega : w.heap.size ≤ w.heap.size + 1) mi (some ⟨g5, 0, none⟩) NN c5
      have HB3 := Lib.hid hb3
      have OR0 := Lib.hid (show NN = R.length ∧ (U2.setCells (w.heap.size + 1) 0 [.int .u8 mi, .slice (some ⟨g5, 0, none⟩) NN c5]).ownsRow w.heap.size 71 2 (.slice (some ⟨g5, 0, none⟩) NN c5) NN (rowC encC R) from by
        obtain ⟨q', c', hq'⟩ := PO2.out.form
        injection hq' with h1 h2 h3
        rw [HV.out]
        refine ⟨h2, owns_low16 (owns_same16 (show U2.ownsRow v1.heap.size 71 2 (.slice (some ⟨g5, 0, none⟩) NN c5) NN _ from by have := PO2.out.row; rw [← h2] at this; exact this) (fun g cs fz hB hg => (heap_setCells16 U2 _ _ (by have := WSH.out; have := B1.out.size; omega) _ _).trans hg)) (by have := WSH.out; have := B1.out.size; omega)⟩)
      have HNR := Lib.hid OR0.out.1
      have OR := Lib.hid OR0.out.2
      clear hb3
      go_wp2_with ((with_reducible show wpList _ _ _ (⟨none, .store 25 (.tmp 6) (.tmp 68), _, _, _, _⟩ :: _) _ _)
                   refine wpList_store_mid rfl 25 (.tmp 6) (.tmp 68) rfl (w.heap.size + 1) 0 #[.int .u8 mi, .slice (some ⟨g5, 0, none⟩) NN c5] rfl rfl (there16 F0.out) HIN.out (one16 _ _ _ _) ?_
                   show wpList _ _ _ _ _ (U2.setCells (w.heap.size + 1) 0 [.int .u8 mi, .slice (some ⟨g5, 0, none⟩) NN c5])
                   generalize U2.setCells (w.heap.size + 1) 0 [.int .u8 mi, .slice (some ⟨g5, 0, none⟩) NN c5] = w3 at hl HB3 OR ⊢)
      (try simp only [Exit.inBlock, Exit.then])
      refine bodyPost_ret (v := .agg #[.int .u8 mi, .slice (some ⟨g5, 0, none⟩) NN c5]) (results_one16 Tryz.results47 ?_ hl) rfl ⟨_, NN, c5, rfl, HNR.out, OR.out, HB3.out⟩
      rfl
    · have hpl : p'.length + 1 = j := by rw [← hpj, List.concat_eq_append, List.length_append]; rfl
      rw [List.concat_eq_append] at HE PO hNl
      obtain ⟨k, hk⟩ : ∃ k, k = p'.length := ⟨_, rfl⟩
      obtain rfl : j = k + 1 := by omega
      have x1 := PO.out.x1
      have hcur : p' ++ [d] ++ (s, a) :: t = p' ++ d :: (s, a) :: t := by simp
      rw [hcur] at PO hNl
      have gd : (p' ++ d :: (s, a) :: t)[k]? = some d := by rw [hk, List.getElem?_append_right (Nat.le_refl _), Nat.sub_self]; rfl
      have gs : (p' ++ d :: (s, a) :: t)[k + 1]? = some (s, a) := by rw [hk, List.getElem?_append_right (by omega), show p'.length + 1 - p'.length = 1 by omega]; rfl
      have hNk : k + 1 < NN := by rw [hNl, hk, List.length_append, List.length_cons, List.length_cons]; omega
      have PR := (show U.ownsRow v1.heap.size 71 2 (.slice (some ⟨g5, 0, none⟩) NN c5) NN (rowC encC (p' ++ d :: (s, a) :: t)) from by have h1 := PO.out.row; rw [← hNl] at h1; exact h1)
      have ca0 := (PR.cellAt ((k + 1) * 2) (by omega)).trans (rowC_get encC_len gs 0 _ rfl)
      have ca1 := (PR.cellAt ((k + 1) * 2 + 1) (by omega)).trans (rowC_get encC_len gs 1 _ rfl)
      have cb0 := (PR.cellAt (k * 2) (by omega)).trans (rowC_get encC_len gd 0 _ rfl)
      have cb1 := (PR.cellAt (k * 2 + 1) (by omega)).trans (rowC_get encC_len gd 1 _ rfl)
      have fa0 := PR.frozenAt ((k + 1) * 2)
      have fa1 := PR.frozenAt ((k + 1) * 2 + 1)
      have fb0 := PR.frozenAt (k * 2)
      have fb1 := PR.frozenAt (k * 2 + 1)
      simp only at ca0 ca1 cb0 cb1 fa0 fa1 fb0 fb1
      obtain ⟨xb, hxb⟩ : ∃ x : Int, x = (d.2 : Nat) := ⟨_, rfl⟩
      have HXB := Lib.hid hxb
      rw [← HAI.out] at ca1
      rw [← hxb] at cb1
      have HEY := Lib.hid (fun (h : lt16 s d.1 = true) => show R = (backC (s, a) p'.reverse).reverse ++ d :: t from by rw [HE.out, back_yes _ _ _ h]; simp)
      have HEN := Lib.hid (fun (h : lt16 s d.1 = false) => show R = p' ++ d :: (s, a) :: t from by rw [HE.out, back_no _ _ _ h]; simp)
      have HK := Lib.hid hk
      obtain ⟨nb, yb⟩ := d
      simp only at cb0 HEY HEN HXB
      clear hpj hpl HE hcur gd gs hNl PR hxb hk
      have HPO := Lib.hid PO.out
      generalize hJ : k + 1 = J at ca0 ca1 fa0 fa1 hNk hj ⊢
      have hwm : IntKind.i64.wrap (k : Int) = k := by rw [IntKind.wrap_i64]; omega
      have hw2 : IntKind.i64.wrap ((J : Int) - 1) = k := by rw [IntKind.wrap_i64]; omega
      have m1 : (J : Int) - 1 = k := by omega
      have m2 : (0 : Int) < (J : Int) := by omega
      have m3 : (J : Int) < (NN : Int) := by omega
      have m4 : (k : Int) < (NN : Int) := by omega
      have m5 : (0 : Int) ≤ (k : Int) := by omega
      have m6 : (0 : Int) ≤ (J : Int) := by omega
      have mN : k < NN := by omega
      have jN : J < NN := by omega
      have j0 : 0 < J := by omega
      have HJ := Lib.hid hJ
      have HJN := Lib.hid hj
      have hgb : g5 ≠ v2.heap.size := (PO.out.own rfl).2
      clear hJ hj e1 hNw
      cases hlt2 : lt16 s nb with
      | true =>
        have hlt3 : Go.Op.bytesLess s.toList nb.toList = true := hlt2
        have HE := Lib.hid (HEY.out hlt2)
        clear HEY HEN hlt2
        go_wp2_with fail
        go_quiet (fail)
        have PB2 := Lib.hid (Go.below_drewN PB.out nq)
        have PO2 := Lib.hid (PO.out.on (Go.below_drewN (Below.refl _ _) nq))
        have K2 : ∀ p, U.cell? p = (U.drewN nq).cell? p := fun p => rfl
        have KF : ∀ p, U.frozen? p = (U.drewN nq).frozen? p := fun p => rfl
        rw [K2] at ca0 ca1 cb0 cb1 x1
        rw [KF] at fa0 fa1 fb0 fb1
        clear K2 KF
        generalize U.drewN nq = U2 at PB2 PO2 ca0 ca1 cb0 cb1 x1 fa0 fa1 fb0 fb1 ⊢
        have kb : ∀ {X : World} (o : Nat) (v : Value), X.cell? ⟨v2.heap.size, 1, none⟩ = some (.slice (some ⟨g5, 0, none⟩) NN c5) → (X.setCell ⟨g5, o, none⟩ v).cell? ⟨v2.heap.size, 1, none⟩ = some (.slice (some ⟨g5, 0, none⟩) NN c5) := fun {X} o v h => (World.cell?_setCell_other X (a := ⟨g5, o, none⟩) (b := ⟨v2.heap.size, 1, none⟩) (v := v) (h := fun e => by injection e with e _ _; exact hgb e)).trans h
        go_wp2_with fail
        refine wp_region_held_drew (S := (fun w' => w'.cell? ⟨v2.heap.size, 1, none⟩ = some (.slice (some ⟨g5, 0, none⟩) NN c5))) (by kernel_rfl) ?_ (fun hHeld => ?_)
        · exact x1
        refine take_op2 (i := 0) (v := ?_) rfl (by kernel_rfl) (by kernel_rfl) (by kernel_rfl) (fun _ _ _ h => h) (Or.inl ⟨wanted_plain rfl, ?_⟩) (by assumption) ?_
        rotate_left
        · (intro w hSw; (try dsimp only at hSw); go_simp; try with_reducible rfl)
        intro act_ hact_; simp only [Act.put, List.setIfInBounds_toArray, List.set_cons_zero, List.set_cons_succ] at hact_; subst hact_
        refine take_op2 (i := 1) (v := ?_) rfl (by kernel_rfl) (by kernel_rfl) (by kernel_rfl) (fun _ _ _ h => h) (Or.inl ⟨wanted_plain rfl, ?_⟩) (by assumption) ?_
        rotate_left
        · (intro w hSw; (try dsimp only at hSw); go_simp; try with_reducible rfl)
        intro act_ hact_; simp only [Act.put, List.setIfInBounds_toArray, List.set_cons_zero, List.set_cons_succ] at hact_; subst hact_
        refine take_op2 (i := 2) (v := ?_) rfl (by kernel_rfl) (by kernel_rfl) (by kernel_rfl) (fun _ _ _ h => h) (Or.inl ⟨wanted_plain rfl, ?_⟩) (by assumption) ?_
        rotate_left
        · (intro w hSw; (try dsimp only at hSw); go_simp; try with_reducible rfl)
        intro act_ hact_; simp only [Act.put, List.setIfInBounds_toArray, List.set_cons_zero, List.set_cons_succ] at hact_; subst hact_
        refine take_op2 (i := 3) (v := ?_) rfl (by kernel_rfl) (by kernel_rfl) (by kernel_rfl) (fun _ _ _ h => h) (Or.inl ⟨wanted_plain rfl, ?_⟩) (by assumption) ?_
        rotate_left
        · (intro w hSw; (try dsimp only at hSw); go_simp; try with_reducible rfl)
        intro act_ hact_; simp only [Act.put, List.setIfInBounds_toArray, List.set_cons_zero, List.set_cons_succ] at hact_; subst hact_
        refine take_op2 (i := 4) (v := ?_) rfl (by kernel_rfl) (by kernel_rfl) (by kernel_rfl) (fun _ _ _ h => h) (Or.inl ⟨wanted_plain rfl, ?_⟩) (by assumption) ?_
        rotate_left
        · (intro w hSw; (try dsimp only at hSw); go_simp; try with_reducible rfl)
        intro act_ hact_; simp only [Act.put, List.setIfInBounds_toArray, List.set_cons_zero, List.set_cons_succ] at hact_; subst hact_
        refine take_op2 (i := 5) (v := ?_) rfl (by kernel_rfl) (by kernel_rfl) (by kernel_rfl) (fun _ _ _ h => h) (Or.inl ⟨wanted_plain rfl, ?_⟩) (by assumption) ?_
        rotate_left
        · (intro w hSw; (try dsimp only at hSw); go_simp; try with_reducible rfl)
        intro act_ hact_; simp only [Act.put, List.setIfInBounds_toArray, List.set_cons_zero, List.set_cons_succ] at hact_; subst hact_
        refine take_op2 (i := 6) (v := ?_) rfl (by kernel_rfl) (by kernel_rfl) (by kernel_rfl) (fun _ _ _ h => h) (Or.inl ⟨wanted_plain rfl, ?_⟩) (by assumption) ?_
        rotate_left
        · (intro w hSw; (try dsimp only at hSw); go_simp; try with_reducible rfl)
        intro act_ hact_; simp only [Act.put, List.setIfInBounds_toArray, List.set_cons_zero, List.set_cons_succ] at hact_; subst hact_
        refine take_op2 (i := 7) (v := ?_) rfl (by kernel_rfl) (by kernel_rfl) (by kernel_rfl) (fun _ _ _ h => h) (Or.inl ⟨wanted_plain rfl, ?_⟩) (by assumption) ?_
        rotate_left
        · (intro w hSw; (try dsimp only at hSw); go_simp; try with_reducible rfl)
        intro act_ hact_; simp only [Act.put, List.setIfInBounds_toArray, List.set_cons_zero, List.set_cons_succ] at hact_; subst hact_
        refine take_op2 (i := 8) (v := ?_) rfl (by kernel_rfl) (by kernel_rfl) (by kernel_rfl) (fun _ _ _ h => h) (Or.inl ⟨wanted_plain rfl, ?_⟩) (by assumption) ?_
        rotate_left
        · (intro w hSw; (try dsimp only at hSw); go_simp; try with_reducible rfl)
        intro act_ hact_; simp only [Act.put, List.setIfInBounds_toArray, List.set_cons_zero, List.set_cons_succ] at hact_; subst hact_
        refine take_op2 (i := 9) (v := ?_) rfl (by kernel_rfl) (by kernel_rfl) (by kernel_rfl) (fun _ _ _ h => h) (Or.inl ⟨wanted_plain rfl, ?_⟩) (by assumption) ?_
        rotate_left
        · (intro w hSw; (try dsimp only at hSw); go_simp; try with_reducible rfl)
        intro act_ hact_; simp only [Act.put, List.setIfInBounds_toArray, List.set_cons_zero, List.set_cons_succ] at hact_; subst hact_
        refine take_op2 (i := 10) (v := ?_) rfl (by kernel_rfl) (by kernel_rfl) (by kernel_rfl) (fun _ _ _ h => h) (Or.inl ⟨wanted_plain rfl, ?_⟩) (by assumption) ?_
        rotate_left
        · (intro w hSw; (try dsimp only at hSw); go_simp; try with_reducible rfl)
        intro act_ hact_; simp only [Act.put, List.setIfInBounds_toArray, List.set_cons_zero, List.set_cons_succ] at hact_; subst hact_
        refine take_op2 (i := 11) (v := ?_) rfl (by kernel_rfl) (by kernel_rfl) (by kernel_rfl) (fun _ _ _ h => h) (Or.inl ⟨wanted_plain rfl, ?_⟩) (by assumption) ?_
        rotate_left
        · (intro w hSw; (try dsimp only at hSw); go_simp; try with_reducible rfl)
        intro act_ hact_; simp only [Act.put, List.setIfInBounds_toArray, List.set_cons_zero, List.set_cons_succ] at hact_; subst hact_
        refine take_op2 (i := 13) (v := ?_) rfl (by kernel_rfl) (by kernel_rfl) (by kernel_rfl) (fun _ _ _ h => h) (Or.inl ⟨wanted_plain rfl, ?_⟩) (by assumption) ?_
        rotate_left
        · (intro w hSw; (try dsimp only at hSw); go_simp; try with_reducible rfl)
        intro act_ hact_; simp only [Act.put, List.setIfInBounds_toArray, List.set_cons_zero, List.set_cons_succ] at hact_; subst hact_
        refine take_op2 (i := 14) (v := ?_) rfl (by kernel_rfl) (by kernel_rfl) (by kernel_rfl) (fun _ _ _ h => h) (Or.inl ⟨wanted_plain rfl, ?_⟩) (by assumption) ?_
        rotate_left
        · (intro w hSw; (try dsimp only at hSw); go_simp; try with_reducible rfl)
        intro act_ hact_; simp only [Act.put, List.setIfInBounds_toArray, List.set_cons_zero, List.set_cons_succ] at hact_; subst hact_
        refine take_op2 (i := 15) (v := ?_) rfl (by kernel_rfl) (by kernel_rfl) (by kernel_rfl) (fun _ _ _ h => h) (Or.inl ⟨wanted_plain rfl, ?_⟩) (by assumption) ?_
        rotate_left
        · (intro w hSw; (try dsimp only at hSw); go_simp; try with_reducible rfl)
        intro act_ hact_; simp only [Act.put, List.setIfInBounds_toArray, List.set_cons_zero, List.set_cons_succ] at hact_; subst hact_
        refine take_op2 (i := 16) (v := ?_) rfl (by kernel_rfl) (by kernel_rfl) (by kernel_rfl) (fun _ _ _ h => h) (Or.inl ⟨wanted_plain rfl, ?_⟩) (by assumption) ?_
        rotate_left
        · (intro w hSw; (try dsimp only at hSw); go_simp; try with_reducible rfl)
        intro act_ hact_; simp only [Act.put, List.setIfInBounds_toArray, List.set_cons_zero, List.set_cons_succ] at hact_; subst hact_
        refine wpAnyH_ready (rs := [12, 17]) (by kernel_rfl) (List.cons_ne_nil _ _) ?_
        refine AllReadyH.cons rfl (fun K hK => ?_) ?_
        · go_simp
          refine hK.out _ _ ?_ (fun hHeld => ?_)
          · exact hHeld
          clear hK K
          refine wpAnyH_ready (rs := [17]) (by kernel_rfl) (List.cons_ne_nil _ _) ?_
          refine AllReadyH.cons rfl (fun K hK => ?_) AllReadyH.nil
          go_simp
          refine hK.out _ _ ?_ (fun hHeld => ?_)
          · exact hHeld
          clear hK K
          refine take_op2 (i := 18) (v := ?_) rfl (by kernel_rfl) (by kernel_rfl) (by kernel_rfl) (fun _ _ _ h => h) (Or.inl ⟨wanted_plain rfl, ?_⟩) (by assumption) ?_
          rotate_left
          · (intro w hSw; (try dsimp only at hSw); go_simp; try with_reducible rfl)
          intro act_ hact_; simp only [Act.put, List.setIfInBounds_toArray, List.set_cons_zero, List.set_cons_succ] at hact_; subst hact_
          refine wpAnyH_ready (rs := [19]) (by kernel_rfl) (List.cons_ne_nil _ _) ?_
          refine AllReadyH.cons rfl (fun K hK => ?_) AllReadyH.nil
          go_simp
          refine hK.out _ _ ?_ (fun hHeld => ?_)
          · exact kb _ _ (kb _ _ hHeld)
          clear hK K
          refine take_op2 (i := 20) (v := ?_) rfl (by kernel_rfl) (by kernel_rfl) (by kernel_rfl) (fun _ _ _ h => h) (Or.inl ⟨wanted_plain rfl, ?_⟩) (by assumption) ?_
          rotate_left
          · (intro w hSw; (try dsimp only at hSw); go_simp; try with_reducible rfl)
          intro act_ hact_; simp only [Act.put, List.setIfInBounds_toArray, List.set_cons_zero, List.set_cons_succ] at hact_; subst hact_
          refine wpAnyH_ready (rs := [21]) (by kernel_rfl) (List.cons_ne_nil _ _) ?_
          refine AllReadyH.cons rfl (fun K hK => ?_) AllReadyH.nil
          go_simp
          refine hK.out _ _ ?_ (fun hHeld => ?_)
          · exact kb _ _ (kb _ _ hHeld)
          clear hK K
          refine wpAnyH_done (by kernel_rfl) ?_ _
          go_wp2_with fail
          go_roundw
          case rel => exact ⟨k, p', (nb, yb) :: t, HK.out.symm, by have := HJN.out; have := HJ.out; omega, by first | rfl | go_num, HE, Lib.hid (OutC.swap ((PO2.out.on ((Below.refl _ _).drew))) HK.out HJ.out.symm HXB.out HAI.out), Lib.hid (((((PB2.out.drew).setCell (p := ⟨g5, J * 2, none⟩) HGB.out _).setCell (p := ⟨g5, J * 2 + 1, none⟩) HGB.out _).setCell (p := ⟨g5, k * 2, none⟩) HGB.out _).setCell (p := ⟨g5, k * 2 + 1, none⟩) HGB.out _)⟩
          case measure => first | (simp [intOf]; have := HJ.out; omega) | (simp [intOf]; done)
        refine AllReadyH.cons rfl (fun K hK => ?_) ?_
        · go_simp
          refine hK.out _ _ ?_ (fun hHeld => ?_)
          · exact hHeld
          clear hK K
          refine wpAnyH_ready (rs := [12]) (by kernel_rfl) (List.cons_ne_nil _ _) ?_
          refine AllReadyH.cons rfl (fun K hK => ?_) AllReadyH.nil
          go_simp
          refine hK.out _ _ ?_ (fun hHeld => ?_)
          · exact hHeld
          clear hK K
          refine take_op2 (i := 18) (v := ?_) rfl (by kernel_rfl) (by kernel_rfl) (by kernel_rfl) (fun _ _ _ h => h) (Or.inl ⟨wanted_plain rfl, ?_⟩) (by assumption) ?_
          rotate_left
          · (intro w hSw; (try dsimp only at hSw); go_simp; try with_reducible rfl)
          intro act_ hact_; simp only [Act.put, List.setIfInBounds_toArray, List.set_cons_zero, List.set_cons_succ] at hact_; subst hact_
          refine wpAnyH_ready (rs := [19]) (by kernel_rfl) (List.cons_ne_nil _ _) ?_
          refine AllReadyH.cons rfl (fun K hK => ?_) AllReadyH.nil
          go_simp
          refine hK.out _ _ ?_ (fun hHeld => ?_)
          · exact kb _ _ (kb _ _ hHeld)
          clear hK K
          refine take_op2 (i := 20) (v := ?_) rfl (by kernel_rfl) (by kernel_rfl) (by kernel_rfl) (fun _ _ _ h => h) (Or.inl ⟨wanted_plain rfl, ?_⟩) (by assumption) ?_
          rotate_left
          · (intro w hSw; (try dsimp only at hSw); go_simp; try with_reducible rfl)
          intro act_ hact_; simp only [Act.put, List.setIfInBounds_toArray, List.set_cons_zero, List.set_cons_succ] at hact_; subst hact_
          refine wpAnyH_ready (rs := [21]) (by kernel_rfl) (List.cons_ne_nil _ _) ?_
          refine AllReadyH.cons rfl (fun K hK => ?_) AllReadyH.nil
          go_simp
          refine hK.out _ _ ?_ (fun hHeld => ?_)
          · exact kb _ _ (kb _ _ hHeld)
          clear hK K
          refine wpAnyH_done (by kernel_rfl) ?_ _
          go_wp2_with fail
          go_roundw
          case rel => exact ⟨k, p', (nb, yb) :: t, HK.out.symm, by have := HJN.out; have := HJ.out; omega, by first | rfl | go_num, HE, Lib.hid (OutC.swap ((PO2.out.on ((Below.refl _ _).drew))) HK.out HJ.out.symm HXB.out HAI.out), Lib.hid (((((PB2.out.drew).setCell (p := ⟨g5, J * 2, none⟩) HGB.out _).setCell (p := ⟨g5, J * 2 + 1, none⟩) HGB.out _).setCell (p := ⟨g5, k * 2, none⟩) HGB.out _).setCell (p := ⟨g5, k * 2 + 1, none⟩) HGB.out _)⟩
          case measure => first | (simp [intOf]; have := HJ.out; omega) | (simp [intOf]; done)
        exact AllReadyH.nil
        | false =>
        have hlt3 : Go.Op.bytesLess s.toList nb.toList = false := hlt2
        have HV := Lib.hid (HEN.out hlt2)
        clear HEY HEN hlt2 HPO hgb fa0 fa1 fb0 fb1
        go_wp2_with fail
        go_quiet (fail)
        have PB2 := Lib.hid (Go.below_drewN PB.out nq)
        have PO2 := Lib.hid (PO.out.on (Go.below_drewN (Below.refl _ _) nq))
        clear x1 ca0 ca1 cb0 cb1
        generalize U.drewN nq = U2 at PB2 PO2 ⊢
        have x1 := PO2.out.x1
        have x0 : U2.cell? ⟨v2.heap.size, 0, none⟩ = some (.int .u8 mi) := by rw [HMI.out]; exact PO2.out.x0
        have F0 := Lib.hid ((PB2.out.block (w.heap.size + 1) (by have := WSH.out; omega)).trans P1.out)
        obtain ⟨hl, hb3⟩ := retL16 F0.out (thn16 BB.out PB2.out) (by omega : w.heap.size ≤ w.heap.size + 1) mi (some ⟨g5, 0, none⟩) NN c5
        have HB3 := Lib.hid hb3
        have OR0 := Lib.hid (show NN = R.length ∧ (U2.setCells (w.heap.size + 1) 0 [.int .u8 mi, .slice (some ⟨g5, 0, none⟩) NN c5]).ownsRow w.heap.size 71 2 (.slice (some ⟨g5, 0, none⟩) NN c5) NN (rowC encC R) from by
          obtain ⟨q', c', hq'⟩ := PO2.out.form
          injection hq' with h1 h2 h3
          rw [HV.out]
          refine ⟨h2, owns_low16 (owns_same16 (show U2.ownsRow v1.heap.size 71 2 (.slice (some ⟨g5, 0, none⟩) NN c5) NN _ from by have := PO2.out.row; rw [← h2] at this; exact this) (fun g cs fz hB hg => (heap_setCells16 U2 _ _ (by have := WSH.out; have := B1.out.size; omega) _ _).trans hg)) (by have := WSH.out; have := B1.out.size; omega)⟩)
        have HNR := Lib.hid OR0.out.1
        have OR := Lib.hid OR0.out.2
        clear hb3
        go_wp2_with ((with_reducible show wpList _ _ _ (⟨none, .store 25 (.tmp 6) (.tmp 68), _, _, _, _⟩ :: _) _ _)
                     refine wpList_store_mid rfl 25 (.tmp 6) (.tmp 68) rfl (w.heap.size + 1) 0 #[.int .u8 mi, .slice (some ⟨g5, 0, none⟩) NN c5] rfl rfl (there16 F0.out) HIN.out (one16 _ _ _ _) ?_
                     show wpList _ _ _ _ _ (U2.setCells (w.heap.size + 1) 0 [.int .u8 mi, .slice (some ⟨g5, 0, none⟩) NN c5])
                     generalize U2.setCells (w.heap.size + 1) 0 [.int .u8 mi, .slice (some ⟨g5, 0, none⟩) NN c5] = w3 at hl HB3 OR ⊢)
        (try simp only [Exit.inBlock, Exit.then])
        refine bodyPost_ret (v := .agg #[.int .u8 mi, .slice (some ⟨g5, 0, none⟩) NN c5]) (results_one16 Tryz.results47 ?_ hl) rfl ⟨_, NN, c5, rfl, HNR.out, OR.out, HB3.out⟩
        rfl
end Go.Proofs.YtanifiobfbfehaaGreatDoor
