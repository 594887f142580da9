/- What the calls of the package insn have to return, one by one, as the chapter says it: the statements of layer 2 are walked over these. Condition: a slice is as long as its capacity allows. What the calls of the package insn that read its table return, of a world in which the table lies as the text lays it: as the chapter says. Condition: a name is at most 2 to the 40th bytes long. What Code and WithX of the package insn return, and with them all its calls: as the chapter says. Condition: a name is at most 2 to the 40th bytes long. -/
import Derived.Test.YtlneiiljdghmjaaDoorIf
import Derived.Test.YtlneiiljdghmjaaDoorId
namespace Go.Proofs.YtlneiiljdghmjaaDoor
open Go.RowKit
set_option linter.unusedVariables false

/-- A row of the program's own table: a code, a class, a name. -/
def rowC (o : One) : List Value := [.int .u16 o.code, .int .u8 o.cls, .string o.name]
/-- The program's own table, in its order. -/
def rowsL : List One := [⟨32, ⟨#[108, 100, 97, 98, 115]⟩, 1⟩, ⟨128, ⟨#[108, 100, 108, 101, 110]⟩, 1⟩, ⟨0, ⟨#[108, 100, 105]⟩, 1⟩, ⟨96, ⟨#[108, 100, 109]⟩, 1⟩, ⟨129, ⟨#[108, 100, 120, 108, 101, 110]⟩, 1⟩, ⟨1, ⟨#[108, 100, 120, 105]⟩, 1⟩, ⟨97, ⟨#[108, 100, 120, 109]⟩, 1⟩, ⟨2, ⟨#[115, 116]⟩, 2⟩, ⟨3, ⟨#[115, 116, 120]⟩, 2⟩, ⟨4, ⟨#[97, 100, 100]⟩, 3⟩, ⟨20, ⟨#[115, 117, 98]⟩, 3⟩, ⟨36, ⟨#[109, 117, 108]⟩, 3⟩, ⟨52, ⟨#[100, 105, 118]⟩, 3⟩, ⟨68, ⟨#[111, 114]⟩, 3⟩, ⟨84, ⟨#[97, 110, 100]⟩, 3⟩, ⟨100, ⟨#[108, 115, 104]⟩, 3⟩, ⟨116, ⟨#[114, 115, 104]⟩, 3⟩, ⟨164, ⟨#[120, 111, 114]⟩, 3⟩, ⟨12, ⟨#[97, 100, 100, 120]⟩, 3⟩, ⟨28, ⟨#[115, 117, 98, 120]⟩, 3⟩, ⟨44, ⟨#[109, 117, 108, 120]⟩, 3⟩, ⟨60, ⟨#[100, 105, 118, 120]⟩, 3⟩, ⟨76, ⟨#[111, 114, 120]⟩, 3⟩, ⟨92, ⟨#[97, 110, 100, 120]⟩, 3⟩, ⟨108, ⟨#[108, 115, 104, 120]⟩, 3⟩, ⟨124, ⟨#[114, 115, 104, 120]⟩, 3⟩, ⟨172, ⟨#[120, 111, 114, 120]⟩, 3⟩, ⟨132, ⟨#[110, 101, 103]⟩, 3⟩, ⟨5, ⟨#[106, 97]⟩, 4⟩, ⟨21, ⟨#[106, 101, 113]⟩, 4⟩, ⟨37, ⟨#[106, 103, 116]⟩, 4⟩, ⟨53, ⟨#[106, 103, 101]⟩, 4⟩, ⟨69, ⟨#[106, 115, 101, 116]⟩, 4⟩, ⟨29, ⟨#[106, 101, 113, 120]⟩, 4⟩, ⟨45, ⟨#[106, 103, 116, 120]⟩, 4⟩, ⟨61, ⟨#[106, 103, 101, 120]⟩, 4⟩, ⟨77, ⟨#[106, 115, 101, 116, 120]⟩, 4⟩, ⟨6, ⟨#[114, 101, 116]⟩, 5⟩, ⟨22, ⟨#[114, 101, 116, 97]⟩, 5⟩, ⟨7, ⟨#[116, 97, 120]⟩, 6⟩, ⟨135, ⟨#[116, 120, 97]⟩, 6⟩]
/-- The table lies in the package's variable, as its text lays it. -/
def GW (w : World) : Prop := ∀ j u, (rowsL.flatMap rowC)[j]? = some u → w.cell? ⟨0, j, none⟩ = some u
theorem GW.keep {w w' : World} (h : GW w) (hk : ∀ q u, w.cell? q = some u → w'.cell? q = some u) : GW w' := fun j u hu => hk _ _ (h j u hu)
theorem GW.on {w w' : World} (h : GW w) (hb : Below w.heap.size w w') : GW w' := h.keep fun q u hu => (hb.cell (World.block_lt_of_cell? w q hu)).trans hu
theorem GW.alloc {w : World} (h : GW w) (o : Obj) : GW (w.alloc o) := h.keep fun q u hu => (World.cell?_alloc_lt w o q (World.block_lt_of_cell? w q hu)).trans hu
theorem GW.drew {w : World} (h : GW w) : GW w.drew := h
def KnownC : Prop := ∀ (c : Int) (w : World), GW w → 0 ≤ c → c < 65536 → Calls Tryd.prog 41 #[.int .u16 c] w fun e w' => e = .returned (.bool (knownB c)) ∧ Below w.heap.size w w'
def OfC : Prop := ∀ (c : Int) (w : World), GW w → 0 ≤ c → c < 65536 → Calls Tryd.prog 20 #[.int .u16 c] w fun e w' => e = .returned (.int .u8 (ofL allL c).cls) ∧ Below w.heap.size w w'
def NameC : Prop := ∀ (c : Int) (w : World), GW w → 0 ≤ c → c < 65536 → Calls Tryd.prog 31 #[.int .u16 c] w fun e w' => e = .returned (.string (ofL allL c).name) ∧ Below w.heap.size w w'
def CodeC : Prop := ∀ (s : ByteArray) (w : World), GW w → s.size ≤ maxLen → Calls Tryd.prog 60 #[.string s] w fun e w' => e = .returned (.tuple #[.int .u16 (codeV s), .bool (codeB s)]) ∧ Below w.heap.size w w'
def WithXC : Prop := ∀ (c : Int) (w : World), GW w → 0 ≤ c → c < 65536 → Calls Tryd.prog 53 #[.int .u16 c] w fun e w' => e = .returned (.bool (withXB c)) ∧ Below w.heap.size w w'
def SameC : Prop := ∀ (p q : Option Addr) (n c m d : Nat) (xs ys : List Ins) (w : World), xs.length = n → ys.length = m → OkL xs → OkL ys → n ≤ 1099511627776 → m ≤ 1099511627776 → RdI w w.heap.size p xs → RdI w w.heap.size q ys →
  Calls Tryd.prog 19 #[.slice p n c, .slice q m d] w fun e w' => e = .returned (.bool (sameI xs ys)) ∧ Below w.heap.size w w'
theorem own_shape' {w : World} {B n d : Nat} {e : TypeId} {p : Option Addr} {xs : List Int} (h : w.ownsRow B e 1 (.slice p n d) n (bv xs)) : Rd w w.heap.size p xs ∧ (p = none → d = 0) ∧ n ≤ d ∧ d ≤ maxLen := by
  have hl : xs.length = n := by have := h.1; rw [bv_length] at this; omega
  rcases h.2 with ⟨hv, rfl⟩ | ⟨g, cap, cur, hv, hg, hh, hc, hm, r⟩
  · injection hv with h1 h2 h3
    subst h1 h3
    obtain rfl : xs = [] := List.eq_nil_of_length_eq_zero hl
    exact ⟨Rd.nil _ _ _, fun _ => rfl, Nat.le_refl _, Nat.zero_le _⟩
  · injection hv with h1 h2 h3
    subst h1 h3
    exact ⟨Rd.of_own h, (fun h => by cases h), hc, hm⟩
theorem own_shapeI' {w : World} {B n d : Nat} {e : TypeId} {p : Option Addr} {l : List Ins} (h : w.ownsRow B e 4 (.slice p n d) n (progC l)) : RdI w w.heap.size p l ∧ (p = none → d = 0) ∧ n ≤ d ∧ d ≤ maxLen := by
  have hl : l.length = n := by have := h.1; rw [progC_length] at this; omega
  rcases h.2 with ⟨hv, rfl⟩ | ⟨g, cap, cur, hv, hg, hh, hc, hm, r⟩
  · injection hv with h1 h2 h3
    subst h1 h3
    obtain rfl : l = [] := List.eq_nil_of_length_eq_zero hl
    exact ⟨RdI.nil _ _ _, fun _ => rfl, Nat.le_refl _, Nat.zero_le _⟩
  · injection hv with h1 h2 h3
    subst h1 h3
    refine ⟨RdI.of_cells (h.lt g rfl).2 (fun j u hu => ?_), (fun h => by cases h), hc, hm⟩
    have := h.cells (g := g) rfl j u hu
    rwa [Addr.add_lit] at this
end Go.Proofs.YtlneiiljdghmjaaDoor
namespace Go.Proofs.YtlneiiljdghmjaaDoor
open Go.RowKit
set_option linter.unusedVariables false

instance : DecidableEq One := fun a b => decidable_of_iff (a.code = b.code ∧ a.name = b.name ∧ a.cls = b.cls) (by cases a; cases b; simp)
theorem rowsL_length : rowsL.length = 41 := rfl
theorem rows_mem : ∀ o, o ∈ rowsL ↔ o ∈ allL := by
  have h1 : rowsL.all (fun o => decide (o ∈ allL)) = true := by decide +kernel
  have h2 : allL.all (fun o => decide (o ∈ rowsL)) = true := by decide +kernel
  exact fun o => ⟨fun h => of_decide_eq_true (List.all_eq_true.1 h1 o h), fun h => of_decide_eq_true (List.all_eq_true.1 h2 o h)⟩
theorem codes_one : ∀ o ∈ allL, ∀ o' ∈ allL, o.code = o'.code → o = o' := by
  have h : allL.all (fun o => allL.all fun o' => decide (o.code = o'.code → o = o')) = true := by decide +kernel
  intro o ho o' ho'
  exact of_decide_eq_true (List.all_eq_true.1 (List.all_eq_true.1 h o ho) o' ho')
theorem names_one : ∀ o ∈ allL, ∀ o' ∈ allL, o.name = o'.name → o = o' := by
  have h : allL.all (fun o => allL.all fun o' => decide (o.name = o'.name → o = o')) = true := by decide +kernel
  intro o ho o' ho'
  exact of_decide_eq_true (List.all_eq_true.1 (List.all_eq_true.1 h o ho) o' ho')
theorem ofL_of_mem : ∀ {l : List One} {o : One}, o ∈ l → ofL l o.code ∈ l ∧ (ofL l o.code).code = o.code
  | a :: r, o, h => by
    by_cases he : a.code = o.code
    · have e : ofL (a :: r) o.code = a := if_pos he
      rw [e]; exact ⟨List.mem_cons_self .., he⟩
    · have e : ofL (a :: r) o.code = ofL r o.code := if_neg he
      rw [e]
      rcases List.mem_cons.1 h with rfl | h
      · exact absurd rfl he
      · have := ofL_of_mem h
        exact ⟨List.mem_cons_of_mem _ this.1, this.2⟩
theorem ofL_rows (c : Int) : ofL rowsL c = ofL allL c := by
  by_cases h : ∃ o ∈ allL, o.code = c
  · obtain ⟨o, ho, rfl⟩ := h
    obtain ⟨a1, a2⟩ := ofL_of_mem ((rows_mem o).2 ho)
    obtain ⟨b1, b2⟩ := ofL_of_mem ho
    exact codes_one _ ((rows_mem _).1 a1) _ b1 (a2.trans b2.symm)
  · rw [ofL_miss fun o ho e => h ⟨o, ho, e⟩, ofL_miss fun o ho e => h ⟨o, (rows_mem o).1 ho, e⟩]
theorem codeL_of_mem : ∀ {l : List One} {o : One}, o ∈ l → ∃ o', codeL l o.name = some o' ∧ o' ∈ l ∧ o'.name = o.name
  | a :: r, o, h => by
    by_cases he : a.name = o.name
    · exact ⟨a, if_pos he, List.mem_cons_self .., he⟩
    · have e : codeL (a :: r) o.name = codeL r o.name := if_neg he
      rcases List.mem_cons.1 h with rfl | h
      · exact absurd rfl he
      · obtain ⟨o', h1, h2, h3⟩ := codeL_of_mem h
        exact ⟨o', by rw [e]; exact h1, List.mem_cons_of_mem _ h2, h3⟩
theorem codeL_rows (s : ByteArray) : codeL rowsL s = codeL allL s := by
  by_cases h : ∃ o ∈ allL, o.name = s
  · obtain ⟨o, ho, rfl⟩ := h
    obtain ⟨a, a1, a2, a3⟩ := codeL_of_mem ((rows_mem o).2 ho)
    obtain ⟨b, b1, b2, b3⟩ := codeL_of_mem ho
    rw [a1, b1, names_one a ((rows_mem _).1 a2) b b2 (a3.trans b3.symm)]
  · rw [codeL_miss fun o ho e => h ⟨o, ho, e⟩, codeL_miss fun o ho e => h ⟨o, (rows_mem o).1 ho, e⟩]
theorem rowC_get : ∀ {l : List One} {i : Nat} (h : i < l.length) (j : Nat) (hj : j < 3), (l.flatMap rowC)[i * 3 + j]? = (rowC l[i])[j]?
  | a :: r, 0, _, j, hj => by
    show (rowC a ++ r.flatMap rowC)[0 * 3 + j]? = _
    rw [Nat.zero_mul, Nat.zero_add, List.getElem?_append_left (by show j < 3; exact hj)]; rfl
  | a :: r, i + 1, h, j, hj => by
    show (rowC a ++ r.flatMap rowC)[(i + 1) * 3 + j]? = _
    have e : (i + 1) * 3 + j = (rowC a).length + (i * 3 + j) := by show _ = 3 + _; omega
    rw [e, List.getElem?_append_right (by omega), Nat.add_sub_cancel_left]
    exact rowC_get (l := r) (i := i) (by simpa using h) j hj
/-- The three cells of a row of the table. -/
structure RowAt (w : World) (k : Nat) (x : One) : Prop where
  a0 : w.cell? ⟨0, k * 3, none⟩ = some (.int .u16 x.code)
  a1 : w.cell? ⟨0, k * 3 + 1, none⟩ = some (.int .u8 x.cls)
  a2 : w.cell? ⟨0, k * 3 + 2, none⟩ = some (.string x.name)
theorem GW.row {w : World} (h : GW w) {k : Nat} (hk : k < rowsL.length) : RowAt w k rowsL[k] :=
  ⟨h _ _ (rowC_get hk 0 (by omega)), h _ _ (rowC_get hk 1 (by omega)), h _ _ (rowC_get hk 2 (by omega))⟩
set_option maxHeartbeats 1600000 in
theorem find_any (c : Int) (w : World) (hG : GW w) : Calls Tryd.prog 37 #[.int .u16 c] w fun e w' =>
    e = .returned (.tuple #[.agg #[.int .u16 (ofL rowsL c).code, .int .u8 (ofL rowsL c).cls, .string (ofL rowsL c).name], .bool (decide (∃ o ∈ rowsL, o.code = c))]) ∧ Below w.heap.size w w' := by
  have HG := Lib.hid (hG.alloc (.cells #[.int .u16 0, .int .u8 0, .string ⟨#[]⟩] 74))
  clear hG
  go_enter Tryd.func37, Tryd.ntmps37
  go_wp2
  go_loop [5] (fun i => ∃ k : Nat, k ≤ 41 ∧ i = .int .i64 k ∧ Hid (∀ o ∈ rowsL.take k, o.code ≠ c)) (fun i => 41 - (intOf i).toNat)
  case atStart => exact ⟨0, by omega, rfl, fun o ho => by simp at ho⟩
  case round =>
    obtain ⟨k, hk, rfl, hm⟩ := hrel
    by_cases hlt : k < 41
    · have hkl : k < rowsL.length := by rw [rowsL_length]; exact hlt
      have hat := HG.out.row hkl
      obtain ⟨x, hx⟩ : ∃ x, x = rowsL[k] := ⟨_, rfl⟩
      have hhit := Lib.hid (show x.code = c → ofL rowsL c = x ∧ ∃ o ∈ rowsL, o.code = c from fun e => by rw [hx]; exact ⟨ofL_hit hm.out hkl (by rw [← hx]; exact e), _, List.getElem_mem hkl, by rw [← hx]; exact e⟩)
      have hmiss := Lib.hid (show x.code ≠ c → ∀ o ∈ rowsL.take (k + 1), o.code ≠ c from fun e => miss_step hm.out hkl (by rw [← hx]; exact e))
      rw [← hx] at hat
      obtain ⟨a0, a1, a2⟩ := hat
      clear hx hkl
      obtain ⟨xc, xn, xk⟩ := x
      by_cases hc : xc = c
      · subst hc
        have hh := Lib.hid (hhit.out rfl)
        clear hhit hmiss hm
        go_wp2
        rw [hh.out.1, decide_eq_true hh.out.2]
        refine bodyPost_ret (v := .tuple #[.agg #[.int .u16 xc, .int .u8 xk, .string xn], .bool true]) (by simp [results, Tryd.results37, go_sem]) rfl ⟨rfl, ?_⟩
        exact (Below.refl _ _).alloc (Nat.le_refl _) _
      · have hh := Lib.hid (hmiss.out hc)
        have hcb := beq_eq_false_iff_ne.2 hc
        clear hhit hmiss hc
        go_wp2
        go_round
        case rel => exact ⟨k + 1, by omega, by go_num, hh.out⟩
        case measure => simp [intOf]; omega
    · obtain rfl : k = 41 := by omega
      have hn := Lib.hid (show ∀ o ∈ rowsL, o.code ≠ c by have := hm.out; rwa [List.take_of_length_le (by rw [rowsL_length]; exact Nat.le_refl _)] at this)
      go_wp2
      rw [ofL_miss hn.out, decide_eq_false (fun h => by obtain ⟨o, ho, e⟩ := h; exact hn.out o ho e)]
      refine bodyPost_ret (v := .tuple #[.agg #[.int .u16 0, .int .u8 0, .string ⟨#[]⟩], .bool false]) (by simp [results, Tryd.results37, go_sem]) rfl ⟨rfl, ?_⟩
      exact (Below.refl _ _).alloc (Nat.le_refl _) _
theorem known_rows (c : Int) : decide (∃ o ∈ rowsL, o.code = c) = knownB c := by
  by_cases h : ∃ o ∈ rowsL, o.code = c
  · rw [decide_eq_true h]
    obtain ⟨o, ho, rfl⟩ := h
    have := allL_good _ (ofL_of_mem ((rows_mem o).1 ho)).1
    unfold knownB
    exact (decide_eq_true (by omega)).symm
  · rw [decide_eq_false h]
    unfold knownB
    rw [ofL_miss (l := allL) fun o ho e => h ⟨o, (rows_mem o).2 ho, e⟩]
    rfl
theorem find_c (c : Int) (w : World) (hG : GW w) : Calls Tryd.prog 37 #[.int .u16 c] w fun e w' =>
    e = .returned (.tuple #[.agg #[.int .u16 (ofL allL c).code, .int .u8 (ofL allL c).cls, .string (ofL allL c).name], .bool (knownB c)]) ∧ Below w.heap.size w w' := by
  have h := find_any c w hG
  rw [known_rows, ofL_rows] at h
  exact h
theorem knownC : KnownC := by
  intro c w hG h0 h1
  have H := Lib.hid (find_c c w hG)
  clear hG h0 h1
  obtain ⟨x, hx⟩ : ∃ x, x = ofL allL c := ⟨_, rfl⟩
  rw [← hx] at H
  obtain ⟨xc, xn, xk⟩ := x
  clear hx
  go_enter Tryd.func41, Tryd.ntmps41
  go_wp2_with (go_at_call 37; ((with_reducible refine H.out.mono ?_); rintro e w1 ⟨rfl, b1⟩))
  go_ret
  exact ⟨rfl, b1.alloc b1.size _⟩
theorem ofC : OfC := by
  intro c w hG h0 h1
  have H := Lib.hid (find_c c w hG)
  clear hG h0 h1
  obtain ⟨x, hx⟩ : ∃ x, x = ofL allL c := ⟨_, rfl⟩
  rw [← hx] at H ⊢
  obtain ⟨xc, xn, xk⟩ := x
  clear hx
  go_enter Tryd.func20, Tryd.ntmps20
  go_wp2_with (go_at_call 37; ((with_reducible refine H.out.mono ?_); rintro e w1 ⟨rfl, b1⟩))
  go_ret
  exact ⟨rfl, b1.alloc b1.size _⟩
theorem nameC : NameC := by
  intro c w hG h0 h1
  have H := Lib.hid (find_c c w hG)
  clear hG h0 h1
  obtain ⟨x, hx⟩ : ∃ x, x = ofL allL c := ⟨_, rfl⟩
  rw [← hx] at H ⊢
  obtain ⟨xc, xn, xk⟩ := x
  clear hx
  go_enter Tryd.func31, Tryd.ntmps31
  go_wp2_with (go_at_call 37; ((with_reducible refine H.out.mono ?_); rintro e w1 ⟨rfl, b1⟩))
  go_ret
  exact ⟨rfl, b1.alloc b1.size _⟩
set_option maxHeartbeats 1600000 in
theorem equal_any (p q : Option Addr) (n c m d B B' : Nat) (xs ys : List Ins) (w : World) (hx : xs.length = n) (hy : ys.length = m) (hm : n ≤ 9223372036854775807) (hm' : m ≤ 9223372036854775807) (h : RdI w B p xs) (k : RdI w B' q ys) :
    Calls Tryd.prog 36 #[.slice p n c, .slice q m d] w fun e w' => e = .returned (.bool (sameI xs ys)) ∧ ∃ j, w' = w.drewN j := by
  by_cases hnm : n = m
  · subst hnm
    by_cases h0 : n = 0
    · subst h0
      obtain rfl : xs = [] := List.eq_nil_of_length_eq_zero hx
      obtain rfl : ys = [] := List.eq_nil_of_length_eq_zero hy
      clear h k
      go_enter Tryd.func36, Tryd.ntmps36
      go_wp2
      refine wp_loop_rounds 1 ?_
      rw [rounds_succ]
      go_wp2
      go_ret
      exact ⟨by rw [sameI_true rfl]; rfl, 0, rfl⟩
    · obtain ⟨b1, o1, rfl, _, hc1⟩ := h (by omega)
      obtain ⟨b2, o2, rfl, _, hc2⟩ := k (by omega)
      have HX := Lib.hid hx
      have HY := Lib.hid hy
      have HC1 := Lib.hid hc1
      have HC2 := Lib.hid hc2
      clear hx hy hc1 hc2
      go_enter Tryd.func36, Tryd.ntmps36
      go_wp2
      go_loopw [13] (fun i wr => ∃ k : Nat, k ≤ n ∧ i = .int .i64 k ∧ Hid (xs.take k = ys.take k) ∧ ∃ j, wr = w.drewN j) (fun i _ => n - (intOf i).toNat)
      case atStart => exact ⟨0, by omega, rfl, rfl, 0, rfl⟩
      case round =>
        obtain ⟨k, hk, rfl, HT, j, rfl⟩ := hrel
        by_cases hlt : k < n
        · have kx : k < xs.length := by have := HX.out; omega
          have ky : k < ys.length := by have := HY.out; omega
          have A := HC1.out k kx
          have B := HC2.out k ky
          obtain ⟨i, hi⟩ : ∃ i, i = xs[k] := ⟨_, rfl⟩
          obtain ⟨i', hi'⟩ : ∃ i, i = ys[k] := ⟨_, rfl⟩
          rw [← hi] at A
          rw [← hi'] at B
          have HXY := Lib.hid (show i = i' → xs.take (k + 1) = ys.take (k + 1) from fun e => takeI_step HT.out kx ky (by rw [← hi, ← hi', e]))
          have HNE := Lib.hid (show i ≠ i' → sameI xs ys = false from fun hne => sameI_false (fun e => hne (by subst e; rw [hi, hi'])))
          clear hi hi' kx ky
          obtain ⟨c1, t1, f1, k1⟩ := i
          obtain ⟨c2, t2, f2, k2⟩ := i'
          obtain ⟨a0, a1, a2, a3⟩ := A
          obtain ⟨b0, b4, b5, b6⟩ := B
          have k0 : (0 : Int) ≤ k := by omega
          have k9 : (k : Int) < n := by omega
          rcases ins_cases c1 c2 t1 t2 f1 f2 k1 k2 with hxy | hne | ⟨rfl, hne⟩ | ⟨rfl, rfl, hne⟩ | ⟨rfl, rfl, rfl, hne⟩
          · obtain ⟨rfl, rfl, rfl, rfl⟩ := hxy
            have hs := Lib.hid (HXY.out rfl)
            clear HXY HNE
            go_wp2_with fail
            go_quiet (fail)
            go_wp2
            go_roundw
            case rel => exact ⟨k + 1, by omega, by go_num, hs.out, _, rfl⟩
            case measure => simp [intOf]; omega
          · have hs := Lib.hid (HNE.out (by intro e; injection e with e1 e2 e3 e4; exact hne e1))
            have hb := beq_eq_false_iff_ne.2 hne
            clear HXY HNE hne
            go_wp2_with fail
            go_quiet (fail)
            go_wp2
            go_ret
            exact ⟨by rw [hs.out]; rfl, _, World.drewN_drewN _ _ _⟩
          · have hs := Lib.hid (HNE.out (by intro e; injection e with e1 e2 e3 e4; exact hne e2))
            have hb := beq_eq_false_iff_ne.2 hne
            clear HXY HNE hne
            go_wp2_with fail
            go_quiet (fail)
            go_wp2
            go_ret
            exact ⟨by rw [hs.out]; rfl, _, World.drewN_drewN _ _ _⟩
          · have hs := Lib.hid (HNE.out (by intro e; injection e with e1 e2 e3 e4; exact hne e3))
            have hb := beq_eq_false_iff_ne.2 hne
            clear HXY HNE hne
            go_wp2_with fail
            go_quiet (fail)
            go_wp2
            go_ret
            exact ⟨by rw [hs.out]; rfl, _, World.drewN_drewN _ _ _⟩
          · have hs := Lib.hid (HNE.out (by intro e; injection e with e1 e2 e3 e4; exact hne e4))
            have hb := beq_eq_false_iff_ne.2 hne
            clear HXY HNE hne
            go_wp2_with fail
            go_quiet (fail)
            go_wp2
            go_ret
            exact ⟨by rw [hs.out]; rfl, _, World.drewN_drewN _ _ _⟩
        · obtain rfl : k = n := by omega
          go_wp2
          go_ret
          refine ⟨?_, _, rfl⟩
          have e : xs = ys := by
            have := HT.out
            have e1 := HX.out
            have e2 := HY.out
            rwa [List.take_of_length_le (by omega), List.take_of_length_le (by omega)] at this
          rw [sameI_true e]
          rfl
  · have hne : sameI xs ys = false := sameI_false (fun e => hnm (by rw [← hx, ← hy, e]))
    rw [hne]
    have ht : ((n : Int) != (m : Int)) = true := by simp; omega
    clear hx hy h k hne
    go_enter Tryd.func36, Tryd.ntmps36
    go_wp2
    go_ret
    exact ⟨rfl, 0, rfl⟩
theorem sameC : SameC := by
  intro p q n c m d xs ys w hx hy ox oy hn hm h1 h2
  have H := Lib.hid (equal_any p q n c m d _ _ xs ys w hx hy (by omega) (by omega) h1 h2)
  clear hx hy ox oy h1 h2
  go_enter Tryd.func19, Tryd.ntmps19
  go_wp2_with (go_at_call 36; ((with_reducible refine H.out.mono ?_); rintro e w1 ⟨rfl, j, rfl⟩))
  go_ret
  exact ⟨rfl, ⟨rfl, rfl, rfl, Nat.le_refl _, fun _ _ => rfl⟩⟩
end Go.Proofs.YtlneiiljdghmjaaDoor
namespace Go.Proofs.YtlneiiljdghmjaaDoor
open Go.RowKit
set_option linter.unusedVariables false

set_option maxHeartbeats 1600000 in
theorem code_any (s : ByteArray) (w : World) (hG : GW w) : Calls Tryd.prog 60 #[.string s] w fun e w' =>
    e = .returned (.tuple #[.int .u16 (((codeL rowsL s).map (·.code)).getD 0), .bool (codeL rowsL s).isSome]) ∧ w = w' := by
  have HG := Lib.hid hG
  clear hG
  go_enter Tryd.func60, Tryd.ntmps60
  go_wp2
  go_loop [5] (fun i => ∃ k : Nat, k ≤ 41 ∧ i = .int .i64 k ∧ Hid (∀ o ∈ rowsL.take k, o.name ≠ s)) (fun i => 41 - (intOf i).toNat)
  case atStart => exact ⟨0, by omega, rfl, fun o ho => by simp at ho⟩
  case round =>
    obtain ⟨k, hk, rfl, hm⟩ := hrel
    by_cases hlt : k < 41
    · have hkl : k < rowsL.length := by rw [rowsL_length]; exact hlt
      have hat := HG.out.row hkl
      obtain ⟨x, hx⟩ : ∃ x, x = rowsL[k] := ⟨_, rfl⟩
      have hhit := Lib.hid (show x.name = s → codeL rowsL s = some x from fun e => by rw [hx]; exact codeL_hit hm.out hkl (by rw [← hx]; exact e))
      have hmiss := Lib.hid (show x.name ≠ s → ∀ o ∈ rowsL.take (k + 1), o.name ≠ s from fun e => name_step hm.out hkl (by rw [← hx]; exact e))
      rw [← hx] at hat
      obtain ⟨a0, a1, a2⟩ := hat
      clear hx hkl
      obtain ⟨xc, xn, xk⟩ := x
      by_cases hc : xn = s
      · subst hc
        have hh := Lib.hid (hhit.out rfl)
        clear hhit hmiss hm
        go_wp2
        go_ret2
        refine ⟨?_, rfl⟩
        rw [hh.out]; rfl
      · have hh := Lib.hid (hmiss.out hc)
        have hcb : (xn.toList == s.toList) = false := beq_eq_false_iff_ne.2 (fun e => hc (list_of_bytes e))
        clear hhit hmiss hc
        go_wp2
        go_round
        case rel => exact ⟨k + 1, by omega, by go_num, hh.out⟩
        case measure => simp [intOf]; omega
    · obtain rfl : k = 41 := by omega
      have hh := Lib.hid (codeL_miss (l := rowsL) (s := s) (by have := hm.out; rwa [List.take_of_length_le (by rw [rowsL_length]; exact Nat.le_refl _)] at this))
      go_wp2
      go_ret2
      refine ⟨?_, rfl⟩
      rw [hh.out]; rfl
theorem codeC : CodeC := by
  intro s w hG hs
  have H := code_any s w hG
  rw [codeL_rows] at H
  exact H.mono fun _ _ ⟨h1, h2⟩ => ⟨h1, h2 ▸ Below.refl _ _⟩
theorem suffix_eq (s : ByteArray) (h : 1 ≤ s.size) : ((s.extract (s.size - 1) s.size).toList == [120]) = decide (s.toList.getLast? = some 120) := by
  rw [ByteArray.toList_eq, ByteArray.toList_eq]
  obtain ⟨⟨l⟩⟩ := s
  have hl : l ≠ [] := by rintro rfl; exact absurd h (by decide)
  obtain ⟨i, a, rfl⟩ : ∃ i a, l = i ++ [a] := ⟨l.dropLast, l.getLast hl, (List.dropLast_concat_getLast hl).symm⟩
  have hs : (ByteArray.mk ⟨i ++ [a]⟩).size = i.length + 1 := by show (i ++ [a]).length = _; simp
  have e : ((ByteArray.mk ⟨i ++ [a]⟩).extract ((ByteArray.mk ⟨i ++ [a]⟩).size - 1) (ByteArray.mk ⟨i ++ [a]⟩).size).data.toList = [a] := by
    rw [hs]; simp
  rw [e]
  show ([a] == [120]) = decide ((i ++ [a]).getLast? = some 120)
  rw [List.getLast?_concat]
  by_cases ha : a = 120
  · subst ha; simp
  · simp [ha]
theorem suffix_any (s : ByteArray) (w : World) (h1 : 1 ≤ s.size) (h2 : s.size ≤ 6) : Calls Tryd.prog 58 #[.string s, .string ⟨#[120]⟩] w fun e w' =>
    e = .returned (.bool (decide (s.toList.getLast? = some 120))) ∧ w = w' := by
  have q1 : (1 : Int) ≤ s.size := by omega
  have q2 : (s.size : Int) ≤ 6 := by omega
  have q3 : (0 : Int) ≤ (s.size : Int) - 1 := by omega
  have q4 : (s.size : Int) - 1 ≤ s.size := by omega
  go_enter Tryd.func58, Tryd.ntmps58
  go_wp2
  go_ret
  exact ⟨congrArg (fun b => Ending.returned (.bool b)) (suffix_eq s h1), rfl⟩
theorem suffix_c (s : ByteArray) (w : World) (h1 : 1 ≤ s.size) (h2 : s.size ≤ 6) : Calls Tryd.prog 50 #[.string s, .string ⟨#[120]⟩] w fun e w' =>
    e = .returned (.bool (decide (s.toList.getLast? = some 120))) ∧ w = w' := by
  have H := Lib.hid (suffix_any s w h1 h2)
  clear h1 h2
  go_enter Tryd.func50, Tryd.ntmps50
  go_wp2_with (go_at_call 58; ((with_reducible refine H.out.mono ?_); rintro e w1 ⟨rfl, rfl⟩))
  go_ret
  exact ⟨rfl, rfl⟩
theorem wx_no (c xc xk : Int) (xn : ByteArray) (k : Bool) (w : World) (h3 : xk ≠ 3) (h4 : xk ≠ 4)
    (H : Calls Tryd.prog 37 #[.int .u16 c] w fun e w' => e = .returned (.tuple #[.agg #[.int .u16 xc, .int .u8 xk, .string xn], .bool k]) ∧ Below w.heap.size w w') :
    Calls Tryd.prog 53 #[.int .u16 c] w fun e w' => e = .returned (.bool false) ∧ Below w.heap.size w w' := by
  have HH := Lib.hid H
  have e3 := beq_eq_false_iff_ne.2 h3
  have e4 := beq_eq_false_iff_ne.2 h4
  clear H h3 h4
  go_enter Tryd.func53, Tryd.ntmps53
  go_wp2_with (go_at_call 37; ((with_reducible refine HH.out.mono ?_); rintro e w1 ⟨rfl, b1⟩))
  go_ret
  exact ⟨rfl, b1.alloc b1.size _⟩
theorem wx_yes (c xc xk : Int) (xn : ByteArray) (k : Bool) (w : World) (h : xk = 3 ∨ xk = 4) (h1 : 1 ≤ xn.size) (h2 : xn.size ≤ 6)
    (H : Calls Tryd.prog 37 #[.int .u16 c] w fun e w' => e = .returned (.tuple #[.agg #[.int .u16 xc, .int .u8 xk, .string xn], .bool k]) ∧ Below w.heap.size w w') :
    Calls Tryd.prog 53 #[.int .u16 c] w fun e w' => e = .returned (.bool (decide (xn.toList.getLast? = some 120))) ∧ Below w.heap.size w w' := by
  have HH := Lib.hid H
  have HS := Lib.hid (fun W => suffix_c xn W h1 h2)
  clear H h1 h2
  rcases h with rfl | rfl
  · go_enter Tryd.func53, Tryd.ntmps53
    go_wp2_with (first
      | (go_at_call 37; ((with_reducible refine HH.out.mono ?_); rintro e w1 ⟨rfl, b1⟩))
      | (go_at_call 50; ((with_reducible refine (HS.out _).mono ?_); rintro e w2 ⟨rfl, rfl⟩)))
    go_ret
    exact ⟨rfl, b1.alloc b1.size _⟩
  · go_enter Tryd.func53, Tryd.ntmps53
    go_wp2_with (first
      | (go_at_call 37; ((with_reducible refine HH.out.mono ?_); rintro e w1 ⟨rfl, b1⟩))
      | (go_at_call 50; ((with_reducible refine (HS.out _).mono ?_); rintro e w2 ⟨rfl, rfl⟩)))
    go_ret
    exact ⟨rfl, b1.alloc b1.size _⟩
theorem withXC : WithXC := by
  intro c w hG h0 h1
  have H := find_c c w hG
  rcases known_name c with ⟨_, h2, h3⟩ | ⟨_, h2⟩
  · by_cases hk : (ofL allL c).cls = 3 ∨ (ofL allL c).cls = 4
    · have e : withXB c = decide ((ofL allL c).name.toList.getLast? = some 120) := by unfold withXB; simp [hk]
      rw [e]
      exact wx_yes c _ _ _ _ w hk (by omega) h3 H
    · have e : withXB c = false := by unfold withXB; simp [hk]
      rw [e]
      exact wx_no c _ _ _ _ w (fun h => hk (Or.inl h)) (fun h => hk (Or.inr h)) H
  · have e : withXB c = false := by unfold withXB; rw [h2]; decide
    rw [e]
    refine wx_no c _ _ _ _ w ?_ ?_ H
    · rw [h2]; decide
    · rw [h2]; decide
end Go.Proofs.YtlneiiljdghmjaaDoor
