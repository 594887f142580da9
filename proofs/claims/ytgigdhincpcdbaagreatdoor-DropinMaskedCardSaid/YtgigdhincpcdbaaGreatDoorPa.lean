/- Drop-ins: which names may be, which files count, in which order, what they come to. What the document's own May returns. Condition: a string that lies in memory. What the document's own Order returns. Condition: files that lie in memory. -/
import Derived.Test.YtgigdhincpcdbaaGreatDoorYc
import Derived.Test.YtgigdhincpcdbaaGreatDoorLl
import Derived.Sort.Walk0
import Derived.Deep.RegionWith
import Derived.Deep.QuietTactic
import Derived.BigQuiet
import Derived.WalkSmall
namespace Go.Proofs.YtgigdhincpcdbaaGreatDoor
open Go.RowKit
set_option linter.unusedVariables false
set_option linter.unusedSimpArgs false
attribute [local go_sem ↓] Go.wp_at_zero Go.wp_at_succ

/-- A file as it lies in memory: its name, its number, where its bytes lie, which they are. -/
structure Fle where
  name : ByteArray
  dir : Int
  ptr : Option Addr
  len : Nat
  cap : Nat
  bytes : List UInt8
def f0 : Fle := ⟨⟨#[]⟩, 0, none, 0, 0, []⟩
instance : Inhabited Fle := ⟨f0⟩
/-- What of a file counts. -/
def Fle.fil (f : Fle) : ByteArray × Int × List UInt8 := (f.name, f.dir, f.bytes)
def encF (f : Fle) : List Value := [.string f.name, .int .i64 f.dir, .slice f.ptr f.len f.cap]
theorem encF_len (f : Fle) : (encF f).length = 3 := rfl
theorem encF_one (f : Fle) : ∀ u ∈ encF f, u.oneCell' = true := fun u hu => by
  unfold encF at hu
  simp only [List.mem_cons, List.mem_nil_iff, or_false] at hu
  rcases hu with rfl | rfl | rfl <;> rfl
theorem fle_info : (Tryz.prog.info? 24).map (fun i => (i.zero, i.size, i.bytes)) = some (some (.agg #[.string ⟨#[]⟩, .int .i64 0, .slice none 0 0]), 3, 48) := by kernel_rfl
/-- A name that a drop-in may have. -/
def okN (c : UInt8) : Bool := decide (32 < c.toNat) && decide (c.toNat < 127) && decide (c.toNat ≠ 47)
def mayL (l : List UInt8) : Bool := decide (6 ≤ l.length) && decide (l.length ≤ 60) && (l.drop (l.length - 5) == [46, 99, 111, 110, 102]) && l.all okN
theorem may_short {l : List UInt8} (h : l.length < 6) : mayL l = false := by unfold mayL; rw [decide_eq_false (by omega)]; rfl
theorem may_long {l : List UInt8} (h : 60 < l.length) : mayL l = false := by unfold mayL; rw [decide_eq_false (p := l.length ≤ 60) (by omega), Bool.and_false]; rfl
theorem may_end {l : List UInt8} (h : (l.drop (l.length - 5) == [46, 99, 111, 110, 102]) = false) : mayL l = false := by unfold mayL; rw [h, Bool.and_false]; rfl
theorem may_bad {l : List UInt8} {j : Nat} (hj : j < l.length) (h : okN l[j] = false) : mayL l = false := by
  unfold mayL
  have : l.all okN = false := by
    rw [List.all_eq_false]
    exact ⟨l[j], List.getElem_mem _, by rw [h]; decide⟩
  rw [this, Bool.and_false]
theorem may_yes {l : List UInt8} (h6 : 6 ≤ l.length) (h60 : l.length ≤ 60) (he : (l.drop (l.length - 5) == [46, 99, 111, 110, 102]) = true) (h : ∀ j (hj : j < l.length), okN l[j] = true) : mayL l = true := by
  unfold mayL
  rw [decide_eq_true h6, decide_eq_true h60, he]
  show l.all okN = true
  rw [List.all_eq_true]
  intro c hc
  obtain ⟨j, hj, rfl⟩ := List.mem_iff_getElem.1 hc
  exact h j hj
/-- One name is less than another one. -/
def ltN (a b : ByteArray) : Bool := Op.bytesLess a.toList b.toList
/-- The one at k takes the place of d, which is at i. -/
def overB (e d : Fle) (k i : Nat) : Bool := (e.name.toList == d.name.toList) && (decide (e.dir < d.dir) || (decide (e.dir = d.dir) && decide (k < i)))
def maskB (D : List Fle) (i : Nat) : Nat → Bool
  | 0 => false
  | k + 1 => maskB D i k || overB (D.getD k f0) (D.getD i f0) k i
/-- Two neighbours change places. -/
def swpF (l : List Fle) (k : Nat) : List Fle := (l.set (k + 1) (l.getD k f0)).set k (l.getD (k + 1) f0)
theorem swpF_length (l : List Fle) (k : Nat) : (swpF l k).length = l.length := by unfold swpF; rw [List.length_set, List.length_set]
def bubF : Nat → List Fle → List Fle
  | 0, l => l
  | 1, l => l
  | k + 2, l => if ltN (l.getD (k + 2) f0).name (l.getD (k + 1) f0).name = true then bubF (k + 1) (swpF l (k + 1)) else l
theorem bubF_length : ∀ (k : Nat) (l : List Fle), (bubF k l).length = l.length
  | 0, _ => rfl
  | 1, _ => rfl
  | k + 2, l => by
    unfold bubF
    split
    · rw [bubF_length (k + 1), swpF_length]
    · rfl
/-- The unit file, behind it those of the first drop-ins that count, by their names. -/
def ordF (m : Fle) (D : List Fle) : Nat → List Fle
  | 0 => [m]
  | i + 1 => if maskB D i D.length = true then ordF m D i else bubF (ordF m D i).length (ordF m D i ++ [D.getD i f0])
theorem ordF_length (m : Fle) (D : List Fle) : ∀ i, 1 ≤ (ordF m D i).length ∧ (ordF m D i).length ≤ i + 1
  | 0 => ⟨Nat.le_refl _, Nat.le_refl _⟩
  | i + 1 => by
    have ih := ordF_length m D i
    unfold ordF
    split
    · omega
    · rw [bubF_length, List.length_append, List.length_singleton]; omega
/-- Is one of the first drop-ins' names none that may be? -/
def badN (D : List Fle) : Nat → Bool
  | 0 => false
  | i + 1 => badN D i || !mayL (D.getD i f0).name.data.toList
def ordE (D : List Fle) : Int := if 16 < D.length then 4 else if badN D D.length = true then 140 else 0
def ordL (m : Fle) (D : List Fle) : List Fle := if ordE D = 0 then ordF m D D.length else []
/-- The first name that may not be. -/
def badT : List Fle → ByteArray
  | [] => ⟨#[]⟩
  | d :: r => if mayL d.name.data.toList = true then badT r else bs (d.name.data.toList.take 60)
def mrgN (m : Fle) (D : List Fle) : List Nte := if ordE D = 0 then (ordL m D).flatMap (fun f => filN f.name f.bytes) else [⟨m.name, 0, ordE D, if ordE D = 140 then badT D else ⟨#[]⟩⟩]
def mrgA (m : Fle) (D : List Fle) : List Asn := if ordE D = 0 ∧ mrgN m D = [] then (ordL m D).flatMap (fun f => filA f.name f.bytes) else []
/-- A file's bytes lie below B. -/
structure FleAt (B : Nat) (w : World) (f : Fle) : Prop where
  nm : f.name.size ≤ maxLen
  len : f.bytes.length = f.len
  fit : f.len ≤ f.cap
  most : f.cap ≤ maxLen
  nil : f.ptr = none → f.cap = 0
  rd : RdB w B f.ptr f.bytes
theorem FleAt.on {w w' : World} {f : Fle} (h : FleAt w.heap.size w f) (b : Below w.heap.size w w') : FleAt w'.heap.size w' f := ⟨h.nm, h.len, h.fit, h.most, h.nil, h.rd.on b⟩
/-- A slice of files. -/
structure FsAt (w : World) (a : Option Addr) (n cap : Nat) (D : List Fle) : Prop where
  len : D.length = n
  fit : n ≤ cap
  most : cap ≤ maxLen
  nil : a = none → cap = 0
  rows : RowsAt 3 encF w (.slice a n cap) D
  each : ∀ f ∈ D, FleAt w.heap.size w f
theorem FsAt.on {w w' : World} {a : Option Addr} {n cap : Nat} {D : List Fle} (h : FsAt w a n cap D) (b : Below w.heap.size w w') : FsAt w' a n cap D := ⟨h.len, h.fit, h.most, h.nil, h.rows.on b, fun f hf => (h.each f hf).on b⟩
theorem FsAt.at {w : World} {a : Option Addr} {n cap : Nat} {D : List Fle} (h : FsAt w a n cap D) {k : Nat} (hk : k < n) : ∃ g o, a = some ⟨g, o, none⟩ ∧ w.cell? ⟨g, o + k * 3, none⟩ = some (.string (D.getD k f0).name) ∧ w.cell? ⟨g, o + k * 3 + 1, none⟩ = some (.int .i64 (D.getD k f0).dir) ∧ w.cell? ⟨g, o + k * 3 + 2, none⟩ = some (.slice (D.getD k f0).ptr (D.getD k f0).len (D.getD k f0).cap) ∧ FleAt w.heap.size w (D.getD k f0) := by
  obtain ⟨q, c, e, hr⟩ := h.rows
  have hk2 : k < D.length := by rw [h.len]; exact hk
  have hx : D[k]? = some (D.getD k f0) := by rw [List.getD_eq_getElem?_getD, List.getElem?_eq_getElem hk2]; rfl
  obtain ⟨g, o, hq, hc⟩ := hr k _ hx
  injection e with e1 e2 e3
  refine ⟨g, o, by rw [e1, hq], ?_, hc 1 _ rfl, hc 2 _ rfl, h.each _ (List.mem_of_getElem? hx)⟩
  have := hc 0 _ rfl
  rwa [Nat.add_zero] at this
set_option maxRecDepth 100000 in
set_option maxHeartbeats 8000000 in
theorem refMay (s : ByteArray) (hs : s.size ≤ maxLen) (w : World) : Calls Tryz.prog 14 #[.string s] w fun e w' => e = .returned (.bool (mayL s.data.toList)) ∧ w = w' := by
  unfold maxLen at hs
  have hsl : s.data.toList.length = s.size := by simp
  by_cases h6 : s.size < 6
  · have HE := Lib.hid (may_short (l := s.data.toList) (by omega))
    have n1 : (s.size : Int) < 6 := by omega
    clear hsl h6 hs
    go_enter Tryz.func14, Tryz.ntmps14
    go_wp2
    go_ret
    exact ⟨by rw [HE.out]; rfl, rfl⟩
  have n1 : ¬ (s.size : Int) < 6 := by omega
  by_cases h60 : 60 < s.size
  · have HE := Lib.hid (may_long (l := s.data.toList) (by omega))
    have n2 : (s.size : Int) > 60 := by omega
    have n3 : (60 : Int) < s.size := by omega
    clear hsl h6 h60 hs
    go_enter Tryz.func14, Tryz.ntmps14
    go_wp2
    go_ret
    exact ⟨by rw [HE.out]; rfl, rfl⟩
  have n2 : ¬ (60 : Int) < s.size := by omega
  have n3 : ¬ (s.size : Int) > 60 := by omega
  have hw1 : IntKind.i64.wrap ((s.size : Int) - 5) = s.size - 5 := by rw [IntKind.wrap_i64]; omega
  have hc5 : ((s.size : Int) - 5) = ((s.size - 5 : Nat) : Int) := by omega
  have n4 : (0 : Int) ≤ (s.size : Int) - 5 := by omega
  have n5 : (s.size : Int) - 5 ≤ s.size := by omega
  have n6 : ((s.size : Int) - 5).toNat = s.size - 5 := by omega
  have hsub : (s.extract (s.size - 5) s.size).toList = s.data.toList.drop (s.data.toList.length - 5) := by
    rw [ByteArray.toList_eq, hsl]
    have h := ext_bs s (s.size - 5) s.size
    rw [h, bs_list, List.take_of_length_le (by simp)]
  cases he : (s.data.toList.drop (s.data.toList.length - 5) == [46, 99, 111, 110, 102]) with
  | false =>
    have HE := Lib.hid (may_end he)
    have t1 : ((s.extract (s.size - 5) s.size).toList == [46, 99, 111, 110, 102]) = false := by rw [hsub]; exact he
    have t2 : ((s.extract (s.size - 5) s.size).toList != [46, 99, 111, 110, 102]) = true := by unfold bne; rw [t1]; rfl
    clear hsl h6 h60 hs hsub he hc5
    go_enter Tryz.func14, Tryz.ntmps14
    go_wp2
    go_ret
    exact ⟨by rw [HE.out]; rfl, rfl⟩
  | true =>
    have HYES := Lib.hid (fun h => may_yes (l := s.data.toList) (by omega) (by omega) he h)
    have HNO := Lib.hid (fun j (hj : j < s.data.toList.length) h => may_bad (l := s.data.toList) hj h)
    have t1 : ((s.extract (s.size - 5) s.size).toList == [46, 99, 111, 110, 102]) = true := by rw [hsub]; exact he
    have t2 : ((s.extract (s.size - 5) s.size).toList != [46, 99, 111, 110, 102]) = false := by unfold bne; rw [t1]; rfl
    have HSL := Lib.hid hsl
    clear hsl h6 h60 hsub he hc5
    go_enter Tryz.func14, Tryz.ntmps14
    go_wp2
    clear t1 t2 n1 n2 n3 n4 n5 n6 hw1
    go_loop [3] (fun v3 => ∃ k : Nat, k ≤ s.size ∧ v3 = .int .i64 k ∧ Hid (∀ j (hj : j < s.data.toList.length), j < k → okN s.data.toList[j] = true)) (fun v3 => s.size - (intOf v3).toNat)
    case atStart => exact ⟨0, Nat.zero_le _, rfl, Lib.hid (fun j hj h => absurd h (Nat.not_lt_zero _))⟩
    case round =>
      obtain ⟨k, hk, rfl, HM⟩ := hrel
      by_cases hlt : k < s.size
      · have hk2 : k < s.data.toList.length := by rw [HSL.out]; exact hlt
        obtain ⟨c, hc⟩ : ∃ c, c = s.data.toList[k] := ⟨_, rfl⟩
        have HC := Lib.hid (show ∀ hj, s.data.toList[k]'hj = c from fun _ => hc.symm)
        obtain ⟨x, hx⟩ : ∃ x, x = (c.toNat : Int) := ⟨_, rfl⟩
        have hidx : ((s[k]'hlt).toNat : Int) = x := by rw [hx, hc]; rfl
        have k1 : (k : Int) < s.size := by omega
        have k0 : (0 : Int) ≤ k := by omega
        have hw2 : IntKind.i64.wrap ((k : Int) + 1) = k + 1 := by rw [IntKind.wrap_i64]; omega
        have hb := HNO.out k hk2
        rw [← hc] at hb
        by_cases h1 : x ≤ 32
        · have HE := Lib.hid (hb (by unfold okN; rw [decide_eq_false (by omega)]; rfl))
          clear hb hc hx hk2
          go_wp2
          go_ret
          exact ⟨by rw [HE.out]; rfl, rfl⟩
        · by_cases h2 : 127 ≤ x
          · have HE := Lib.hid (hb (by unfold okN; rw [decide_eq_false (p := c.toNat < 127) (by omega), Bool.and_false]; rfl))
            have h3 : x ≥ 127 := h2
            clear hb hc hx hk2
            go_wp2
            go_ret
            exact ⟨by rw [HE.out]; rfl, rfl⟩
          · have h4 : ¬ x ≥ 127 := h2
            by_cases h3 : x = 47
            · have HE := Lib.hid (hb (by unfold okN; rw [decide_eq_false (p := c.toNat ≠ 47) (by omega), Bool.and_false]))
              have t3 : (x == 47) = true := by rw [h3]; rfl
              clear hb hc hx hk2
              go_wp2
              go_ret
              exact ⟨by rw [HE.out]; rfl, rfl⟩
            · have HK := Lib.hid (show okN c = true by unfold okN; rw [decide_eq_true (by omega), decide_eq_true (p := c.toNat < 127) (by omega), decide_eq_true (p := c.toNat ≠ 47) (by omega)]; rfl)
              have t3 : (x == 47) = false := beq_eq_false_iff_ne.2 h3
              clear hb hc hx hk2
              go_wp2
              go_round
              case rel => exact ⟨k + 1, by omega, by go_num, Lib.hid (fun j hj h => by
                by_cases e : j = k
                · subst e; rw [HC.out]; exact HK.out
                · exact HM.out j hj (by omega))⟩
              case measure => simp [intOf]; omega
      · obtain rfl : k = s.size := by omega
        have k1 : ¬ (s.size : Int) < s.size := by omega
        have HE := Lib.hid (HYES.out (fun j hj => HM.out j hj (by rw [← HSL.out]; exact hj)))
        go_wp2
        go_ret
        exact ⟨by rw [HE.out]; rfl, rfl⟩
end Go.Proofs.YtgigdhincpcdbaaGreatDoor
namespace Go.Proofs.YtgigdhincpcdbaaGreatDoor
open Go.RowKit
set_option linter.unusedVariables false
set_option linter.unusedSimpArgs false
attribute [local go_sem ↓] Go.wp_at_zero Go.wp_at_succ

theorem badN_le {D : List Fle} {a b : Nat} (h : badN D a = true) (hab : a ≤ b) : badN D b = true := by
  induction b with
  | zero =>
    obtain rfl : a = 0 := by omega
    exact h
  | succ b ih =>
    show (badN D b || _) = true
    by_cases e : a = b + 1
    · subst e; exact h
    · rw [ih (by omega), Bool.true_or]
theorem ordE_full {D : List Fle} (h : 16 < D.length) : ordE D = 4 := by unfold ordE; rw [if_pos h]
theorem ordE_bad {D : List Fle} (h : ¬ 16 < D.length) (hb : badN D D.length = true) : ordE D = 140 := by unfold ordE; rw [if_neg h, if_pos hb]
theorem ordE_ok {D : List Fle} (h : ¬ 16 < D.length) (hb : badN D D.length = false) : ordE D = 0 := by unfold ordE; rw [if_neg h, if_neg (by rw [hb]; exact Bool.false_ne_true)]
theorem FsAt.base {w : World} {a : Option Addr} {n cap : Nat} {D : List Fle} (h : FsAt w a n cap D) : ∃ g o, (0 < n → a = some ⟨g, o, none⟩) ∧ ∀ k, k < n → w.cell? ⟨g, o + k * 3, none⟩ = some (.string (D.getD k f0).name) ∧ w.cell? ⟨g, o + k * 3 + 1, none⟩ = some (.int .i64 (D.getD k f0).dir) ∧ w.cell? ⟨g, o + k * 3 + 2, none⟩ = some (.slice (D.getD k f0).ptr (D.getD k f0).len (D.getD k f0).cap) := by
  by_cases hn : 0 < n
  · obtain ⟨g, o, e, _⟩ := h.at hn
    refine ⟨g, o, fun _ => e, fun k hk => ?_⟩
    obtain ⟨g', o', e', c0, c1, c2, _⟩ := h.at hk
    rw [e] at e'
    injection e' with e'
    injection e' with e1 e2 _
    rw [e1, e2]
    exact ⟨c0, c1, c2⟩
  · exact ⟨0, 0, fun h => absurd h hn, fun k hk => absurd hk (by omega)⟩
theorem rowF_get {l : List Fle} {i : Nat} (h : i < l.length) : (rowC encF l)[i * 3]? = some (.string (l.getD i f0).name) ∧ (rowC encF l)[i * 3 + 1]? = some (.int .i64 (l.getD i f0).dir) ∧ (rowC encF l)[i * 3 + 2]? = some (.slice (l.getD i f0).ptr (l.getD i f0).len (l.getD i f0).cap) := by
  have hx : l[i]? = some (l.getD i f0) := by rw [List.getD_eq_getElem?_getD, List.getElem?_eq_getElem h]; rfl
  exact ⟨rowC_get encF_len hx 0 _ rfl, rowC_get encF_len hx 1 _ rfl, rowC_get encF_len hx 2 _ rfl⟩
theorem rowF_set : ∀ (l : List Fle) (i : Nat) (e : Fle), rowC encF (l.set i e) = (((rowC encF l).set (i * 3) (.string e.name)).set (i * 3 + 1) (.int .i64 e.dir)).set (i * 3 + 2) (.slice e.ptr e.len e.cap)
  | [], i, e => rfl
  | x :: r, 0, e => rfl
  | x :: r, i + 1, e => by
    show encF x ++ rowC encF (r.set i e) = (((encF x ++ rowC encF r).set ((i + 1) * 3) _).set ((i + 1) * 3 + 1) _).set ((i + 1) * 3 + 2) _
    have e1 : (i + 1) * 3 = (encF x).length + i * 3 := by show _ = 3 + _; omega
    rw [rowF_set r i e, e1, Nat.add_assoc, Nat.add_assoc, List.set_append_right _ _ (by omega), List.set_append_right _ _ (by omega), List.set_append_right _ _ (by omega), Nat.add_sub_cancel_left, Nat.add_sub_cancel_left, Nat.add_sub_cancel_left]
theorem ownForm14 {w : World} {B size n : Nat} {e : TypeId} {v : Value} {xs : List Value} (h : w.ownsRow B e size v n xs) : ∃ q c, v = .slice q n c := by
  rcases h.2 with ⟨hv, h0⟩ | ⟨g, cap, cur, hv, _⟩
  · exact ⟨none, 0, by rw [hv, h0]⟩
  · exact ⟨_, _, hv⟩
theorem ownForm14b {w : World} {B size n : Nat} {e : TypeId} {v : Value} {xs : List Value} (h : w.ownsRow B e size v n xs) (hn : 0 < n) : ∃ g, B ≤ g ∧ g < w.heap.size := by
  obtain ⟨g, c, hv, hB, hl⟩ := h.form hn
  exact ⟨g, hB, hl⟩
theorem news_f (w : World) (f : Fle) (t : TypeId) : ∀ j u, (rowC encF [f])[j]? = some u → (w.alloc (.cells #[.string f.name, .int .i64 f.dir, .slice f.ptr f.len f.cap] t)).cell? ((⟨w.heap.size, 0, none⟩ : Addr).add j) = some u := fun j u hu => by
  rw [rowC_one1] at hu
  rw [Addr.add_lit, Nat.zero_add, cell_of_row _ _ j _ _ (0, 0) (heap_alloc_new w _), ← Array.getElem?_toList]
  exact hu
theorem own_fresh (w : World) (f : Fle) (t : TypeId) : (w.alloc (.cells #[.string f.name, .int .i64 f.dir, .slice f.ptr f.len f.cap] t)).ownsRow w.heap.size t 3 (.slice (some ⟨w.heap.size, 0, none⟩) 1 1) 1 (rowC encF [f]) :=
  ⟨by rw [rowC_one1]; rfl, .inr ⟨w.heap.size, 1, _, rfl, Nat.le_refl _, heap_alloc_new w _, Nat.le_refl _, by unfold maxLen; omega, rfl, by rw [rowC_one1]; rfl⟩⟩
set_option maxRecDepth 100000 in
set_option maxHeartbeats 64000000 in
theorem refOrder (m : Fle) (D : List Fle) (a : Option Addr) (n cap : Nat) (w : World) (h : FsAt w a n cap D) : Calls Tryz.prog 11 #[.agg #[.string m.name, .int .i64 m.dir, .slice m.ptr m.len m.cap], .slice a n cap] w fun e w' =>
    ∃ v, e = .returned (.tuple #[v, .int .i64 (ordE D)]) ∧ RowsAt 3 encF w' v (ordL m D) ∧ Below w.heap.size w w' := by
  have hDn := h.len
  by_cases hfull : 16 < n
  · have e1 := ordE_full (D := D) (by omega)
    have e2 : ordL m D = [] := by unfold ordL; rw [e1]; rfl
    rw [e1, e2]
    have n1 : (16 : Int) < n := by omega
    have n2 : (n : Int) > 16 := n1
    clear e1 e2 hDn hfull h
    go_enter Tryz.func11, Tryz.ntmps11
    go_wp2_with fail
    go_ret2
    exact ⟨_, rfl, RowsAt.nil _, (Below.refl _ _).alloc (Nat.le_refl _) _⟩
  have n1 : ¬ (16 : Int) < n := by omega
  have n2 : ¬ (n : Int) > 16 := n1
  obtain ⟨g, o, hbase, hcells⟩ := h.base
  have HA := Lib.hid hbase
  have HCL := Lib.hid (fun (W : World) (b : Below w.heap.size w W) k (hk : k < n) => (show W.cell? ⟨g, o + k * 3, none⟩ = some (.string (D.getD k f0).name) ∧ W.cell? ⟨g, o + k * 3 + 1, none⟩ = some (.int .i64 (D.getD k f0).dir) ∧ W.cell? ⟨g, o + k * 3 + 2, none⟩ = some (.slice (D.getD k f0).ptr (D.getD k f0).len (D.getD k f0).cap) from
    ⟨(b.cell (World.block_lt_of_cell? w _ (hcells k hk).1)).trans (hcells k hk).1, (b.cell (World.block_lt_of_cell? w _ (hcells k hk).2.1)).trans (hcells k hk).2.1, (b.cell (World.block_lt_of_cell? w _ (hcells k hk).2.2)).trans (hcells k hk).2.2⟩))
  have HMY := Lib.hid (fun k (hk : k < n) (W : World) => refMay (D.getD k f0).name (by obtain ⟨_, _, _, _, _, _, hf⟩ := h.at hk; exact hf.nm) W)
  have HB := Lib.hid (fun k (hk : k < n) (hb : badN D (k + 1) = true) => ordE_bad (D := D) (by omega) (badN_le hb (by omega)))
  have HK := Lib.hid (fun (hb : badN D n = false) => ordE_ok (D := D) (by omega) (by rw [hDn]; exact hb))
  have HDN := Lib.hid hDn
  have n16 : (n : Int) ≤ 16 := by omega
  have B0 := Lib.hid ((Below.refl w.heap.size w).alloc (Nat.le_refl _) (.cells #[.string m.name, .int .i64 m.dir, .slice m.ptr m.len m.cap] 24))
  obtain ⟨i0, hi0, hz0, hz1, hz2⟩ := info_parts fle_info
  have HI := Lib.hid hi0
  have HZ0 := Lib.hid hz0
  have HZ1 := Lib.hid hz1
  have HZ2 := Lib.hid hz2
  have HNB := Lib.hid hfull
  clear hDn h hbase hcells hi0 hz0 hz1 hz2 hfull
  go_enter Tryz.func11, Tryz.ntmps11
  go_wp2_with fail
  go_loop [6] (fun v6 => ∃ k : Nat, k ≤ n ∧ v6 = .int .i64 k ∧ Hid (badN D k = false)) (fun v6 => n - (intOf v6).toNat)
  case atStart => exact ⟨0, Nat.zero_le _, rfl, Lib.hid rfl⟩
  case round =>
    obtain ⟨k, hk, rfl, HM⟩ := hrel
    by_cases hlt : k < n
    · obtain rfl := HA.out (by omega)
      obtain ⟨c0, _, _⟩ := HCL.out _ B0.out k hlt
      have k1 : (k : Int) < n := by omega
      have k0 : (0 : Int) ≤ k := by omega
      have hw1 : IntKind.i64.wrap ((k : Int) + 1) = k + 1 := by rw [IntKind.wrap_i64]; omega
      have HY := Lib.hid (fun W => HMY.out k hlt W)
      have HE := Lib.hid (fun (hf : mayL (D.getD k f0).name.data.toList = false) => HB.out k hlt (by show (badN D k || _) = true; rw [hf, Bool.not_false, Bool.or_true]))
      have HG := Lib.hid (fun (hf : mayL (D.getD k f0).name.data.toList = true) => show badN D (k + 1) = false from by show (badN D k || _) = false; rw [hf, HM.out]; rfl)
      obtain ⟨nm, hnm⟩ : ∃ nm, nm = (D.getD k f0).name := ⟨_, rfl⟩
      rw [← hnm] at c0 HY HE HG
      clear hnm
      cases hy : mayL nm.data.toList with
      | false =>
        have e1 := HE.out hy
        rw [hy] at HY
        have e2 : ordL m D = [] := by unfold ordL; rw [e1]; rfl
        have E1 := Lib.hid (And.intro e1 e2)
        clear hy e1 e2 HE HG
        go_wp2_with (go_at_call 14; ((with_reducible refine (HY.out _).mono ?_); rintro e w1 ⟨rfl, rfl⟩))
        go_ret2
        exact ⟨_, by rw [E1.out.1]; rfl, by rw [E1.out.2]; exact RowsAt.nil _, B0.out⟩
      | true =>
        have HM2 := Lib.hid (HG.out hy)
        rw [hy] at HY
        clear hy HE HG
        go_wp2_with (go_at_call 14; ((with_reducible refine (HY.out _).mono ?_); rintro e w1 ⟨rfl, rfl⟩))
        go_round
        case rel => exact ⟨k + 1, by omega, by go_num, HM2⟩
        case measure => simp [intOf]; omega
    · obtain rfl : k = n := by omega
      have k1 : ¬ (k : Int) < k := by omega
      have HE := Lib.hid (HK.out HM.out)
      clear HM HB HK HMY
      have HNEW := Lib.hid (own_fresh (w.alloc (.cells #[.string m.name, .int .i64 m.dir, .slice m.ptr m.len m.cap] 24)) m 24)
      rw [World.size_alloc] at HNEW
      have B1 := Lib.hid (B0.out.alloc B0.out.size (.cells #[.string m.name, .int .i64 m.dir, .slice m.ptr m.len m.cap] 24))
      go_wp2_with fail
      go_loopw [7, 8] (fun v7 v8 wr => ∃ i : Nat, i ≤ k ∧ v8 = .int .i64 i ∧ Hid (wr.ownsRow (w.heap.size + 1) 24 3 v7 (ordF m D i).length (rowC encF (ordF m D i))) ∧ Hid (Below w.heap.size w wr)) (fun _ v8 _ => k - (intOf v8).toNat)
      case atStart => exact ⟨0, Nat.zero_le _, rfl, Lib.hid HNEW.out, B1⟩
      case round =>
        clear HNEW B1 B0
        obtain ⟨i, hi, rfl, PO, PB⟩ := hrel
        obtain ⟨V, rfl⟩ : ∃ wo : World, wo = wr := ⟨_, rfl⟩
        by_cases hit : i < k
        · obtain rfl := HA.out (by omega)
          have i1 : (i : Int) < k := by omega
          have i0' : (0 : Int) ≤ i := by omega
          have hw1 : IntKind.i64.wrap ((i : Int) + 1) = i + 1 := by rw [IntKind.wrap_i64]; omega
          have HLEN := Lib.hid (ordF_length m D i)
          have HO1 := Lib.hid (fun (hm : maskB D i k = true) => show ordF m D (i + 1) = ordF m D i from by
            show (if maskB D i D.length = true then _ else _) = _
            rw [HDN.out, if_pos hm])
          have HO2 := Lib.hid (fun (hm : maskB D i k = false) => show ordF m D (i + 1) = bubF (ordF m D i).length (ordF m D i ++ [D.getD i f0]) from by
            show (if maskB D i D.length = true then _ else _) = _
            rw [HDN.out, if_neg (by rw [hm]; exact Bool.false_ne_true)])
          have HCI := Lib.hid (fun (W : World) (b : Below w.heap.size w W) => HCL.out W b i hit)
          obtain ⟨di, hdi⟩ : ∃ d, d = D.getD i f0 := ⟨_, rfl⟩
          rw [← hdi] at HCI HO2
          have HDI := Lib.hid hdi
          obtain ⟨L, hL⟩ : ∃ L, L = ordF m D i := ⟨_, rfl⟩
          rw [← hL] at PO HLEN HO1 HO2
          clear hdi hL
          go_wp2_with fail
          go_loopw [9, 10] (fun v9 v10 wr => ∃ j : Nat, j ≤ k ∧ v9 = .bool (!maskB D i j) ∧ v10 = .int .i64 j ∧ Hid (wr.ownsRow (w.heap.size + 1) 24 3 u7 L.length (rowC encF L)) ∧ Hid (Below w.heap.size w wr)) (fun _ v10 _ => k - (intOf v10).toNat)
          case atStart => exact ⟨0, Nat.zero_le _, rfl, rfl, PO, PB⟩
          case round =>
            clear PO PB
            obtain ⟨j, hj, rfl, rfl, PO, PB3⟩ := hrel
            obtain ⟨U, rfl⟩ : ∃ wo : World, wo = wr := ⟨_, rfl⟩
            by_cases hjt : j < k
            · obtain ⟨c0, c1, _⟩ := HCL.out U PB3.out j hjt
              obtain ⟨d0, d1, _⟩ := HCI.out U PB3.out
              have j1 : (j : Int) < k := by omega
              have j0 : (0 : Int) ≤ j := by omega
              have hw2 : IntKind.i64.wrap ((j : Int) + 1) = j + 1 := by rw [IntKind.wrap_i64]; omega
              have HMS := Lib.hid (show maskB D i (j + 1) = (maskB D i j || overB (D.getD j f0) (D.getD i f0) j i) from rfl)
              obtain ⟨dj, hdj⟩ : ∃ d, d = D.getD j f0 := ⟨_, rfl⟩
              rw [← hdj, ← HDI.out] at HMS
              rw [← hdj] at c0 c1
              obtain ⟨B, hB⟩ : ∃ B, B = maskB D i j := ⟨_, rfl⟩
              rw [← hB] at HMS ⊢
              obtain ⟨jn, jd, jp, jl, jc, jb⟩ := dj
              obtain ⟨dn, dd, dp, dl, dc, db⟩ := di
              simp only at c0 c1 d0 d1
              have HOV := Lib.hid (show overB ⟨jn, jd, jp, jl, jc, jb⟩ ⟨dn, dd, dp, dl, dc, db⟩ j i = ((jn.toList == dn.toList) && (decide (jd < dd) || (decide (jd = dd) && decide (j < i)))) from rfl)
              clear hdj hB
              by_cases hn : jn.toList = dn.toList
              · have t1 : (jn.toList == dn.toList) = true := by rw [beq_iff_eq]; exact hn
                by_cases hd : jd < dd
                · have HV := Lib.hid (show maskB D i (j + 1) = true from by rw [HMS.out, HOV.out]; rw [t1, decide_eq_true hd] <;> simp)
                  clear HMS HOV hn
                  go_wp2_with fail
                  go_quiet (fail)
                  go_wp2_with fail
                  go_roundw
                  case rel => exact ⟨j + 1, by omega, by (rw [HV.out]) <;> first | rfl | simp, by go_num, Lib.hid (own_on13 PO.out (Go.below_drewN (Below.refl _ _) _)), Lib.hid (Go.below_drewN PB3.out _)⟩
                  case measure => simp [intOf]; omega
                · by_cases he : jd = dd
                  · have t2 : (jd == dd) = true := by rw [beq_iff_eq]; exact he
                    by_cases hk3 : j < i
                    · have j3 : (j : Int) < i := by omega
                      have HV := Lib.hid (show maskB D i (j + 1) = true from by rw [HMS.out, HOV.out]; rw [t1, decide_eq_false hd, decide_eq_true he, decide_eq_true hk3] <;> simp)
                      clear HMS HOV hn he
                      go_wp2_with fail
                      go_quiet (fail)
                      go_wp2_with fail
                      go_roundw
                      case rel => exact ⟨j + 1, by omega, by (rw [HV.out]) <;> first | rfl | simp, by go_num, Lib.hid (own_on13 PO.out (Go.below_drewN (Below.refl _ _) _)), Lib.hid (Go.below_drewN PB3.out _)⟩
                      case measure => simp [intOf]; omega
                    · have j3 : ¬ (j : Int) < i := by omega
                      have HV := Lib.hid (show maskB D i (j + 1) = B from by rw [HMS.out, HOV.out]; rw [t1, decide_eq_false hd, decide_eq_true he, decide_eq_false hk3] <;> simp)
                      clear HMS HOV hn he
                      go_wp2_with fail
                      go_quiet (fail)
                      go_wp2_with fail
                      go_roundw
                      case rel => exact ⟨j + 1, by omega, by (rw [HV.out]) <;> first | rfl | simp, by go_num, Lib.hid (own_on13 PO.out (Go.below_drewN (Below.refl _ _) _)), Lib.hid (Go.below_drewN PB3.out _)⟩
                      case measure => simp [intOf]; omega
                  · have t2 : (jd == dd) = false := beq_eq_false_iff_ne.2 he
                    have HV := Lib.hid (show maskB D i (j + 1) = B from by rw [HMS.out, HOV.out]; rw [t1, decide_eq_false hd, decide_eq_false he] <;> simp)
                    clear HMS HOV hn
                    go_wp2_with fail
                    go_quiet (fail)
                    go_wp2_with fail
                    go_roundw
                    case rel => exact ⟨j + 1, by omega, by (rw [HV.out]) <;> first | rfl | simp, by go_num, Lib.hid (own_on13 PO.out (Go.below_drewN (Below.refl _ _) _)), Lib.hid (Go.below_drewN PB3.out _)⟩
                    case measure => simp [intOf]; omega
              · have t1 : (jn.toList == dn.toList) = false := beq_eq_false_iff_ne.2 hn
                have HV := Lib.hid (show maskB D i (j + 1) = B from by rw [HMS.out, HOV.out]; rw [t1] <;> simp)
                clear HMS HOV hn
                go_wp2_with fail
                go_quiet (fail)
                go_wp2_with fail
                go_roundw
                case rel => exact ⟨j + 1, by omega, by (rw [HV.out]) <;> first | rfl | simp, by go_num, Lib.hid (own_on13 PO.out (Go.below_drewN (Below.refl _ _) _)), Lib.hid (Go.below_drewN PB3.out _)⟩
                case measure => simp [intOf]; omega
            · obtain rfl : j = k := by omega
              have j1 : ¬ (j : Int) < j := by omega
              cases hm : maskB D i j with
              | true =>
                have HS := Lib.hid (HO1.out hm)
                clear HO1 HO2 hm
                go_wp2_with fail
                go_roundw
                case rel => exact ⟨i + 1, by omega, by go_num, Lib.hid (by rw [HS.out]; exact PO.out), PB3⟩
                case measure => simp [intOf]; omega
              | false =>
                have HS := Lib.hid (HO2.out hm)
                clear HO1 HO2 hm
                obtain ⟨d0, d1, d2⟩ := HCI.out U PB3.out
                obtain ⟨N, hN⟩ : ∃ N, N = L.length := ⟨_, rfl⟩
                have hlen := HLEN.out
                rw [← hN] at hlen PO HS
                have HN := Lib.hid hN
                have hNk : N ≤ 17 := by omega
                have hN1 : 1 ≤ N := hlen.1
                have N1 : (N : Int) ≤ 17 := by omega
                have hUs := PB3.out.size
                have HUB := Lib.hid (show w.heap.size + 1 ≤ U.heap.size from (by
                  rcases ownForm14b PO.out (by omega) with ⟨g5, hg5, hlt5⟩
                  omega))
                clear hlen hN
                go_wp2_with (first
                  | (at_builtin
                     refine wpList_append_own _ rfl (.tmp 86) (.tmp 91) 25 rfl (w.heap.size + 1) 24 i0 _ 3 48 Tryz.underlying25 HI.out HZ0.out HZ1.out HZ2.out rfl (by omega) _ N (rowC encF L) rfl (PO.out.alloc _) ⟨U.heap.size, 0, none⟩ 1 1 (rowC encF [di]) rfl rfl (news_f U di _) (by rw [rowC_one1]; exact encF_one _) (by unfold maxLen; omega) (by omega) (by rw [World.size_alloc]; have := HUB.out; omega) ?_
                     intro v5 w5 o5 hg5 _
                     rw [← rowC_app] at o5
                     have O5 := Lib.hid o5
                     have B5 := Lib.hid ((PB3.out.alloc PB3.out.size _).grown hg5 (by rw [World.size_alloc]; have := PB3.out.size; omega) (fun g hg => by have := (PO.out.lt g hg).1; omega))
                     obtain ⟨g5, c5, hv5, hgB, hgl⟩ := o5.form (by omega)
                     subst hv5
                     clear o5 hg5))
                obtain ⟨L0, hL0⟩ : ∃ L0, L0 = L ++ [di] := ⟨_, rfl⟩
                have hl0 : L0.length = N + 1 := by rw [hL0, List.length_append, ← HN.out]; rfl
                rw [← hL0] at O5 HS
                have hgB2 : w.heap.size ≤ g5 := by omega
                clear hL0 HN d0 d1 d2 hUs
                have e1 : ((N + 1 : Nat) : Int) - 1 = N := by omega
                go_loopw [11] (fun v11 wr => ∃ (y : Nat) (L' : List Fle), y ≤ N ∧ v11 = .int .i64 y ∧ Hid (bubF y L' = bubF N L0) ∧ Hid (L'.length = N + 1) ∧ Hid (wr.ownsRow (w.heap.size + 1) 24 3 (.slice (some ⟨g5, 0, none⟩) (N + 1) c5) (N + 1) (rowC encF L')) ∧ Hid (Below w.heap.size w wr)) (fun v11 _ => (intOf v11).toNat)
                case atStart => exact ⟨N, L0, Nat.le_refl _, rfl, Lib.hid rfl, Lib.hid hl0, O5, B5⟩
                case round =>
                  clear O5 B5
                  obtain ⟨y, L', hy, rfl, HBB, HL', PO', PB'⟩ := hrel
                  obtain ⟨X, rfl⟩ : ∃ wo : World, wo = wr := ⟨_, rfl⟩
                  have hy1 : (y : Int) ≤ N := by omega
                  rcases Nat.lt_or_ge y 2 with hy2 | hy2
                  · have HE2 := Lib.hid (show L' = bubF N L0 from by
                      rw [← HBB.out]
                      rcases Nat.lt_or_ge y 1 with h | h
                      · obtain rfl : y = 0 := by omega
                        rfl
                      · obtain rfl : y = 1 := by omega
                        rfl)
                    have y1 : ¬ (1 : Int) < y := by omega
                    have y2 : ¬ (y : Int) > 1 := y1
                    have t9 : decide ((y : Int) > 1) = false := decide_eq_false y2
                    have t8 : decide ((1 : Int) < y) = false := decide_eq_false y1
                    clear HBB
                    go_wp2_with fail
                    go_quiet (fail)
                    go_wp2_with fail
                    go_roundw
                    case rel => exact ⟨i + 1, by omega, by go_num, Lib.hid (by rw [HS.out, bubF_length, hl0, ← HE2.out]; exact own_on13 PO'.out (Go.below_drewN (Below.refl _ _) _)), Lib.hid (Go.below_drewN PB'.out _)⟩
                    case measure => simp [intOf]; omega
                  · obtain ⟨z, hz⟩ : ∃ z, y = z + 2 := ⟨y - 2, by omega⟩
                    have hL1 : y < L'.length := by rw [HL'.out]; omega
                    have hL2 : y - 1 < L'.length := by omega
                    have g1 := rowF_get hL1
                    have g2 := rowF_get hL2
                    have ca0 := PO'.out.cellAt (y * 3) (by omega)
                    have ca1 := PO'.out.cellAt (y * 3 + 1) (by omega)
                    have ca2 := PO'.out.cellAt (y * 3 + 2) (by omega)
                    have cb0 := PO'.out.cellAt ((y - 1) * 3) (by omega)
                    have cb1 := PO'.out.cellAt ((y - 1) * 3 + 1) (by omega)
                    have cb2 := PO'.out.cellAt ((y - 1) * 3 + 2) (by omega)
                    rw [g1.1] at ca0
                    rw [g1.2.1] at ca1
                    rw [g1.2.2] at ca2
                    rw [g2.1] at cb0
                    rw [g2.2.1] at cb1
                    rw [g2.2.2] at cb2
                    have HU := Lib.hid (show bubF y L' = if ltN (L'.getD y f0).name (L'.getD (y - 1) f0).name = true then bubF (y - 1) (swpF L' (y - 1)) else L' from by subst hz; rfl)
                    obtain ⟨ea, hea⟩ : ∃ e, e = L'.getD y f0 := ⟨_, rfl⟩
                    obtain ⟨eb, heb⟩ : ∃ e, e = L'.getD (y - 1) f0 := ⟨_, rfl⟩
                    have HSW := Lib.hid (show swpF L' (y - 1) = (L'.set y eb).set (y - 1) ea from by
                      subst hz
                      rw [hea, heb]; rfl)
                    rw [← hea] at ca0 ca1 ca2 HU
                    rw [← heb] at cb0 cb1 cb2 HU
                    clear hea heb g1 g2 hz
                    obtain ⟨na, da, pa, la, qa, ba⟩ := ea
                    obtain ⟨nb, db, pb, lb, qb, bb⟩ := eb
                    simp only at ca0 ca1 ca2 cb0 cb1 cb2 HU
                    unfold ltN at HU
                    have HEY := Lib.hid (fun (h : Op.bytesLess na.toList nb.toList = true) => show bubF (y - 1) (swpF L' (y - 1)) = bubF N L0 from by rw [← HBB.out, HU.out, if_pos h])
                    have HEN := Lib.hid (fun (h : Op.bytesLess na.toList nb.toList = false) => show L' = bubF N L0 from by rw [← HBB.out, HU.out, if_neg (by rw [h]; exact Bool.false_ne_true)])
                    have fa0 := PO'.out.frozenAt (y * 3)
                    have fa1 := PO'.out.frozenAt (y * 3 + 1)
                    have fa2 := PO'.out.frozenAt (y * 3 + 2)
                    have fb0 := PO'.out.frozenAt ((y - 1) * 3)
                    have fb1 := PO'.out.frozenAt ((y - 1) * 3 + 1)
                    have fb2 := PO'.out.frozenAt ((y - 1) * 3 + 2)
                    have HPO := Lib.hid PO'.out
                    have HOWN := Lib.hid (fun (Z : World) (h : Z.ownsRow (w.heap.size + 1) 24 3 (.slice (some ⟨g5, 0, none⟩) (N + 1) c5) (N + 1) (rowC encF L')) => (by
                      have s1 := (h.stored (y * 3) (.string nb)).1
                      have s2 := (s1.stored (y * 3 + 1) (.int .i64 db)).1
                      have s3 := (s2.stored (y * 3 + 2) (.slice pb lb qb)).1
                      have s4 := (s3.stored ((y - 1) * 3) (.string na)).1
                      have s5 := (s4.stored ((y - 1) * 3 + 1) (.int .i64 da)).1
                      have s6 := (s5.stored ((y - 1) * 3 + 2) (.slice pa la qa)).1
                      rw [HSW.out, rowF_set, rowF_set]
                      exact s6 : ((((((Z.setCell ⟨g5, y * 3, none⟩ (.string nb)).setCell ⟨g5, y * 3 + 1, none⟩ (.int .i64 db)).setCell ⟨g5, y * 3 + 2, none⟩ (.slice pb lb qb)).setCell ⟨g5, (y - 1) * 3, none⟩ (.string na)).setCell ⟨g5, (y - 1) * 3 + 1, none⟩ (.int .i64 da)).setCell ⟨g5, (y - 1) * 3 + 2, none⟩ (.slice pa la qa)).ownsRow (w.heap.size + 1) 24 3 (.slice (some ⟨g5, 0, none⟩) (N + 1) c5) (N + 1) (rowC encF (swpF L' (y - 1)))))
                    have hyN : y < N + 1 := by omega
                    obtain ⟨q, hq⟩ : ∃ q, q = y - 1 := ⟨_, rfl⟩
                    rw [← hq] at cb0 cb1 cb2 fb0 fb1 fb2 HEY HOWN
                    have HQ := Lib.hid (show y = q + 1 ∧ y ≤ N from ⟨by omega, by omega⟩)
                    have q1 : (y : Int) - 1 = q := by omega
                    have hwq : IntKind.i64.wrap ((y : Int) - 1) = q := by rw [IntKind.wrap_i64]; omega
                    have hwq2 : IntKind.i64.wrap (q : Int) = q := by rw [IntKind.wrap_i64]; omega
                    have q2 : (0 : Int) ≤ q := by omega
                    have y3 : (1 : Int) < y := by omega
                    have y4 : (y : Int) > 1 := y3
                    have t9 : decide ((y : Int) > 1) = true := decide_eq_true y4
                    have t8 : decide ((1 : Int) < y) = true := decide_eq_true y3
                    have y0 : (0 : Int) ≤ y := by omega
                    generalize hM : N + 1 = M at HL' HOWN HPO PO' hyN ⊢
                    have y5 : (y : Int) < M := by omega
                    have q5 : (q : Int) < M := by omega
                    have q6 : q < M := by omega
                    have qy : q < y := by omega
                    have M17 : (M : Int) ≤ 18 := by omega
                    have HMN := Lib.hid hM
                    clear hy hy1 hy2 hL1 hL2 HBB HU hq hM e1 N1 hNk hN1
                    by_cases hlt2 : Op.bytesLess na.toList nb.toList = true
                    · have HE2 := Lib.hid (HEY.out hlt2)
                      clear HEY HEN
                      go_wp2_with fail
                      go_quiet (fail)
                      go_wp2_with fail
                      go_region_with (fail)
                      all_goals
                        go_wp2_with fail
                        go_roundw
                        case rel => exact ⟨q, swpF L' q, by have := HQ.out; omega, rfl, HE2, Lib.hid (by rw [swpF_length]; exact HL'.out), Lib.hid (by exact HOWN.out _ (own_on13 HPO.out (Go.below_drewN (Below.refl _ _) _))), Lib.hid (((((((Go.below_drewN PB'.out _).setCell (p := ⟨g5, y * 3, none⟩) hgB2 _).setCell (p := ⟨g5, y * 3 + 1, none⟩) hgB2 _).setCell (p := ⟨g5, y * 3 + 2, none⟩) hgB2 _).setCell (p := ⟨g5, q * 3, none⟩) hgB2 _).setCell (p := ⟨g5, q * 3 + 1, none⟩) hgB2 _).setCell (p := ⟨g5, q * 3 + 2, none⟩) hgB2 _)⟩
                        case measure => simp [intOf]; omega
                    · have hlf : Op.bytesLess na.toList nb.toList = false := by cases h : Op.bytesLess na.toList nb.toList with | true => exact absurd h hlt2 | false => rfl
                      have HE2 := Lib.hid (HEN.out hlf)
                      clear HEY HEN hlt2
                      go_wp2_with fail
                      go_quiet (fail)
                      go_wp2_with fail
                      go_roundw
                      case rel => exact ⟨i + 1, by omega, by go_num, Lib.hid (by rw [HS.out, bubF_length, hl0, ← HE2.out, HMN.out]; exact own_on13 PO'.out (Go.below_drewN (Below.refl _ _) _)), Lib.hid (Go.below_drewN PB'.out _)⟩
                      case measure => simp [intOf]; omega
        · obtain rfl : i = k := by omega
          have i1 : ¬ (i : Int) < i := by omega
          obtain ⟨q, c, hv⟩ := ownForm14 PO.out
          subst hv
          have HR := Lib.hid (show RowsAt 3 encF V (.slice q (ordF m D i).length c) (ordL m D) from by
            unfold ordL
            rw [HE.out, if_pos rfl, HDN.out]
            exact rows_own encF_len PO.out)
          go_wp2_with fail
          go_ret2
          exact ⟨_, by rw [HE.out]; rfl, HR.out, PB.out⟩
end Go.Proofs.YtgigdhincpcdbaaGreatDoor
