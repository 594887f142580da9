/- What the document's own Run returns: what the plain function says. Condition: a program of at most a thousand instructions. -/
import Derived.Test.YtinfbmfmmbibbaaDoorVg
import Derived.Deep.RegionHeld3
import Derived.Deep.DrawnRows
import Derived.LoopN
namespace Go.Proofs.YtinfbmfmmbibbaaDoor
open Go.RowKit
set_option linter.unusedVariables false
attribute [local go_sem ↓] Go.wp_at_zero Go.wp_at_succ

/-- Places as values. -/
def plV (l : List Nat) : List Value := l.map (fun j : Nat => Value.int .i64 (j : Int))
theorem plV_length (l : List Nat) : (plV l).length = l.length := List.length_map ..
theorem plV_snoc (l : List Nat) (j : Nat) : plV (l ++ [j]) = plV l ++ [.int .i64 (j : Int)] := by simp [plV]
theorem plV_one (l : List Nat) : ∀ v ∈ plV l, v.oneCell' = true := by
  intro v hv
  obtain ⟨j, _, rfl⟩ := List.mem_map.1 hv
  rfl
theorem int_info : (Tryd.prog.info? 3).map (fun i => (i.zero, i.size, i.bytes)) = some (some (.int .i64 0), 1, 8) := by kernel_rfl
theorem own_but {w w' : World} {B n size M : Nat} {e : TypeId} {v : Value} {xs : List Value} (h : w.ownsRow B e size v n xs) (hg : w.grownBy w' (some M)) (hM : M < B) : w'.ownsRow B e size v n xs := by
  have hl := h.lt
  obtain ⟨h1, h2⟩ := h
  refine ⟨h1, ?_⟩
  rcases h2 with h2 | ⟨g, cap, cur, hv, hgB, hh, r⟩
  · exact Or.inl h2
  · exact Or.inr ⟨g, cap, cur, hv, hgB, by rw [hg.block g (hl g (by rw [hv]; rfl)).2 (fun e => by injection e with e; omega)]; exact hh, r⟩
theorem cell_but {w w' : World} {M : Nat} {p : Addr} {u : Value} (hg : w.grownBy w' (some M)) (hp : p.block ≠ M) (h : w.cell? p = some u) : w'.cell? p = some u :=
  (World.cell?_of_block (hg.block _ (World.block_lt_of_cell? w p h) (fun e => hp (by injection e)))).trans h
theorem BoxD.but {w w' : World} {b M : Nat} {d : Dat} (h : BoxD w b d) (hg : w.grownBy w' (some M)) (hb : b ≠ M) : BoxD w' b d := (hg.block b h.lt (fun e => hb (by injection e))).trans h
theorem RdI.but {w w' : World} {B M : Nat} {p : Option Addr} {l : List Ins} (h : RdI w B p l) (hg : w.grownBy w' (some M)) (hB : B ≤ M) (hw : B ≤ w.heap.size) : RdI w' B p l := h.keep fun q hq => World.cell?_of_block (hg.block _ (by omega) (fun e => by injection e with e; omega))
theorem below_but {w0 w w' : World} {M : Nat} (h : Below w0.heap.size w0 w) (hg : w.grownBy w' (some M)) (hM : w0.heap.size ≤ M) : Below w0.heap.size w0 w' := h.grown hg h.size (fun k hk => by injection hk with hk; omega)
theorem dw13 {v : World} {b0 o0 b1 o1 b2 o2 b3 o3 b4 o4 b5 o5 b6 o6 b7 o7 b8 o8 b9 o9 b10 o10 b11 o11 b12 o12 : Nat} {u0 u1 u2 u3 u4 u5 u6 u7 u8 u9 u10 u11 u12 : Value} (h : v.cell? ⟨b0, o0, none⟩ = some u0 ∧ v.cell? ⟨b1, o1, none⟩ = some u1 ∧ v.cell? ⟨b2, o2, none⟩ = some u2 ∧ v.cell? ⟨b3, o3, none⟩ = some u3 ∧ v.cell? ⟨b4, o4, none⟩ = some u4 ∧ v.cell? ⟨b5, o5, none⟩ = some u5 ∧ v.cell? ⟨b6, o6, none⟩ = some u6 ∧ v.cell? ⟨b7, o7, none⟩ = some u7 ∧ v.cell? ⟨b8, o8, none⟩ = some u8 ∧ v.cell? ⟨b9, o9, none⟩ = some u9 ∧ v.cell? ⟨b10, o10, none⟩ = some u10 ∧ v.cell? ⟨b11, o11, none⟩ = some u11 ∧ v.cell? ⟨b12, o12, none⟩ = some u12) : v.drew.cell? ⟨b0, o0, none⟩ = some u0 ∧ v.drew.cell? ⟨b1, o1, none⟩ = some u1 ∧ v.drew.cell? ⟨b2, o2, none⟩ = some u2 ∧ v.drew.cell? ⟨b3, o3, none⟩ = some u3 ∧ v.drew.cell? ⟨b4, o4, none⟩ = some u4 ∧ v.drew.cell? ⟨b5, o5, none⟩ = some u5 ∧ v.drew.cell? ⟨b6, o6, none⟩ = some u6 ∧ v.drew.cell? ⟨b7, o7, none⟩ = some u7 ∧ v.drew.cell? ⟨b8, o8, none⟩ = some u8 ∧ v.drew.cell? ⟨b9, o9, none⟩ = some u9 ∧ v.drew.cell? ⟨b10, o10, none⟩ = some u10 ∧ v.drew.cell? ⟨b11, o11, none⟩ = some u11 ∧ v.drew.cell? ⟨b12, o12, none⟩ = some u12 := h
theorem but13 {v w' : World} {M : Nat} {b0 o0 b1 o1 b2 o2 b3 o3 b4 o4 b5 o5 b6 o6 b7 o7 b8 o8 b9 o9 b10 o10 b11 o11 b12 o12 : Nat} {u0 u1 u2 u3 u4 u5 u6 u7 u8 u9 u10 u11 u12 : Value} (hg : v.grownBy w' (some M)) (n0 : b0 ≠ M) (n1 : b1 ≠ M) (n2 : b2 ≠ M) (n3 : b3 ≠ M) (n4 : b4 ≠ M) (n5 : b5 ≠ M) (n6 : b6 ≠ M) (n7 : b7 ≠ M) (n8 : b8 ≠ M) (n9 : b9 ≠ M) (n10 : b10 ≠ M) (n11 : b11 ≠ M) (n12 : b12 ≠ M) (h : v.cell? ⟨b0, o0, none⟩ = some u0 ∧ v.cell? ⟨b1, o1, none⟩ = some u1 ∧ v.cell? ⟨b2, o2, none⟩ = some u2 ∧ v.cell? ⟨b3, o3, none⟩ = some u3 ∧ v.cell? ⟨b4, o4, none⟩ = some u4 ∧ v.cell? ⟨b5, o5, none⟩ = some u5 ∧ v.cell? ⟨b6, o6, none⟩ = some u6 ∧ v.cell? ⟨b7, o7, none⟩ = some u7 ∧ v.cell? ⟨b8, o8, none⟩ = some u8 ∧ v.cell? ⟨b9, o9, none⟩ = some u9 ∧ v.cell? ⟨b10, o10, none⟩ = some u10 ∧ v.cell? ⟨b11, o11, none⟩ = some u11 ∧ v.cell? ⟨b12, o12, none⟩ = some u12) : w'.cell? ⟨b0, o0, none⟩ = some u0 ∧ w'.cell? ⟨b1, o1, none⟩ = some u1 ∧ w'.cell? ⟨b2, o2, none⟩ = some u2 ∧ w'.cell? ⟨b3, o3, none⟩ = some u3 ∧ w'.cell? ⟨b4, o4, none⟩ = some u4 ∧ w'.cell? ⟨b5, o5, none⟩ = some u5 ∧ w'.cell? ⟨b6, o6, none⟩ = some u6 ∧ w'.cell? ⟨b7, o7, none⟩ = some u7 ∧ w'.cell? ⟨b8, o8, none⟩ = some u8 ∧ w'.cell? ⟨b9, o9, none⟩ = some u9 ∧ w'.cell? ⟨b10, o10, none⟩ = some u10 ∧ w'.cell? ⟨b11, o11, none⟩ = some u11 ∧ w'.cell? ⟨b12, o12, none⟩ = some u12 :=
  ⟨cell_but (p := ⟨b0, o0, none⟩) hg n0 h.1, cell_but (p := ⟨b1, o1, none⟩) hg n1 h.2.1, cell_but (p := ⟨b2, o2, none⟩) hg n2 h.2.2.1, cell_but (p := ⟨b3, o3, none⟩) hg n3 h.2.2.2.1, cell_but (p := ⟨b4, o4, none⟩) hg n4 h.2.2.2.2.1, cell_but (p := ⟨b5, o5, none⟩) hg n5 h.2.2.2.2.2.1, cell_but (p := ⟨b6, o6, none⟩) hg n6 h.2.2.2.2.2.2.1, cell_but (p := ⟨b7, o7, none⟩) hg n7 h.2.2.2.2.2.2.2.1, cell_but (p := ⟨b8, o8, none⟩) hg n8 h.2.2.2.2.2.2.2.2.1, cell_but (p := ⟨b9, o9, none⟩) hg n9 h.2.2.2.2.2.2.2.2.2.1, cell_but (p := ⟨b10, o10, none⟩) hg n10 h.2.2.2.2.2.2.2.2.2.2.1, cell_but (p := ⟨b11, o11, none⟩) hg n11 h.2.2.2.2.2.2.2.2.2.2.2.1, cell_but (p := ⟨b12, o12, none⟩) hg n12 h.2.2.2.2.2.2.2.2.2.2.2.2⟩
theorem own_form {w : World} {B n size : Nat} {e : TypeId} {v : Value} {xs : List Value} (h : w.ownsRow B e size v n xs) : ∃ q c, v = .slice q n c := by
  rcases h.2 with ⟨rfl, hx⟩ | ⟨g, cap, cur, rfl, _⟩
  · exact ⟨none, 0, by rw [hx]⟩
  · exact ⟨_, cap, rfl⟩
theorem drew_sz (w : World) : w.drew.heap.size = w.heap.size := rfl
theorem go_known {i : Ins} (hi : i.Ok) {d : Dat} {a x a' x' : Int} {c c' : Nat → Int} {n : Nat} (h : doI i d a x c = .go a' x' c' n) : knownB i.c = true := by
  cases hk : knownB i.c with
  | true => rfl
  | false => rw [doI_unknown hi hk] at h; cases h
theorem jump_cls {c : Int} (hk : knownB c = true) : decide ((ofL allL c).cls = 4) = isJump c := by
  have e : vmCodes.all (fun c => decide ((ofL allL c).cls = 4) == isJump c) = true := by decide +kernel
  have := List.all_eq_true.1 e c (known_code hk)
  simpa using this
/-- How many an instruction leaves out. -/
theorem skip_small {i : Ins} (hi : i.Ok) {d : Dat} {a x a' x' : Int} {c c' : Nat → Int} {n : Nat} (h : doI i d a x c = .go a' x' c' n) : n < 4294967296 := by
  have hk : i.k.toNat < 4294967296 := by have := hi.k1; have := hi.k0; omega
  have ht : i.jt.toNat < 4294967296 := by have := hi.t1; have := hi.t0; omega
  have hf : i.jf.toNat < 4294967296 := by have := hi.f1; have := hi.f0; omega
  have key : ∀ o : Out, (∀ a x c n, o = .go a x c n → n < 4294967296) → o = .go a' x' c' n → n < 4294967296 := fun o ho e => ho _ _ _ _ e
  refine key (doI i d a x c) ?_ h
  have ite_ok : ∀ (q : Prop) [Decidable q] (u v : Out), (∀ a x c n, u = .go a x c n → n < 4294967296) → (∀ a x c n, v = .go a x c n → n < 4294967296) → (∀ a x c n, (if q then u else v) = .go a x c n → n < 4294967296) := by
    intro q _ u v hu hv
    by_cases hq : q
    · rw [if_pos hq]; exact hu
    · rw [if_neg hq]; exact hv
  unfold doI
  repeat' (first
    | (apply ite_ok)
    | (intro a x c n e; cases e <;> first | decide | exact hk | (split <;> assumption)))
def RunTo (r : Res) (w : World) (e : Ending) (w' : World) : Prop :=
  ∃ v, e = .returned (.tuple #[.int .u32 r.ans, .int .i64 r.steps, v, .int .i64 r.err]) ∧ w'.ownsRow w.heap.size 3 1 v r.pl.length (plV r.pl) ∧ Below w.heap.size w w'
theorem run_zero {w : World} : MachAt (w.alloc (.cells #[.int .u32 0, .int .u32 0, .int .u32 0, .int .u32 0, .int .u32 0, .int .u32 0, .int .u32 0, .int .u32 0, .int .u32 0, .int .u32 0, .int .u32 0, .int .u32 0, .int .u32 0, .int .u32 0, .int .u32 0, .int .u32 0, .int .u32 0, .int .u32 0, .int .u32 0, .bool false] 61)) w.heap.size 0 0 0 (fun _ => 0) false := heap_alloc_new w _
set_option maxRecDepth 100000 in
set_option maxHeartbeats 16000000 in
theorem refRun (a0 : Option Addr) (len0 cap0 : Nat) (p : List Ins) (d : Dat) (w : World) (hl : p.length = len0) (hn : len0 ≤ 1000) (hp : OkL p) (hd : d.Ok) (hr : RdI w w.heap.size a0 p) :
    Calls Tryd.prog 11 #[.slice a0 len0 cap0, datV d] w (RunTo (runL p d) w) := by
  obtain ⟨i0, hi, hz0, hz1, hz2⟩ := info_parts int_info
  have HI := Lib.hid hi
  have H0 := Lib.hid hz0
  have H1 := Lib.hid hz1
  have H2 := Lib.hid hz2
  have HL := Lib.hid hl
  have HP := Lib.hid hp
  have HD := Lib.hid hd
  have HR := Lib.hid hr
  have HM0 := Lib.hid (run_zero (w := w.alloc (.cells (datC d) 27)))
  have HB0 := Lib.hid ((BoxD.new w d).alloc (.cells #[.int .u32 0, .int .u32 0, .int .u32 0, .int .u32 0, .int .u32 0, .int .u32 0, .int .u32 0, .int .u32 0, .int .u32 0, .int .u32 0, .int .u32 0, .int .u32 0, .int .u32 0, .int .u32 0, .int .u32 0, .int .u32 0, .int .u32 0, .int .u32 0, .int .u32 0, .bool false] 61))
  have HW0 : Below w.heap.size w ((w.alloc (.cells (datC d) 27)).alloc (.cells #[.int .u32 0, .int .u32 0, .int .u32 0, .int .u32 0, .int .u32 0, .int .u32 0, .int .u32 0, .int .u32 0, .int .u32 0, .int .u32 0, .int .u32 0, .int .u32 0, .int .u32 0, .int .u32 0, .int .u32 0, .int .u32 0, .int .u32 0, .int .u32 0, .int .u32 0, .bool false] 61)) := ((Below.refl _ _).alloc (Nat.le_refl _) _).alloc (by simp) _
  have hfd := one_field2
  clear hi hz0 hz1 hz2 hl hp hd hr
  unfold datV
  unfold datC at HM0 HB0 HW0 ⊢
  go_enter Tryd.func11, Tryd.ntmps11
  go_wp2_with fail
  go_loopw [9, 10, 11, 12, 13] (fun l at_ b _ _ wr => ∃ k : Nat, k ≤ 8589934592 ∧ at_ = .int .i64 k ∧ ∃ bb : Int, b = .int .i64 bb ∧ (bb = 42 ∨ bb = 46) ∧ ∃ (a x : Int) (c : Nat → Int) (pl : List Nat) (f : Nat), Hid (MachAt wr (w.heap.size + 1) a x 0 c false) ∧ Hid (OkM a x c) ∧ Hid (BoxD wr w.heap.size d) ∧
      wr.ownsRow (w.heap.size + 2) 3 1 l pl.length (plV pl) ∧ Below w.heap.size w wr ∧ Hid (pl.length ≤ k ∧ pl.length ≤ len0) ∧ Hid (len0 < f + k ∧ runF p d f k a x c bb pl = runL p d)) (fun _ at_ _ _ _ _ => 17179869184 - (intOf at_).toNat)
  case atStart => exact ⟨0, by omega, rfl, 46, rfl, Or.inr rfl, 0, 0, fun _ => 0, [], len0 + 1, (by have h := HM0.out; rw [World.size_alloc] at h; exact h), ⟨⟨by decide, by decide⟩, ⟨by decide, by decide⟩, fun _ => ⟨Int.le_refl 0, by show (0 : Int) < 4294967296; decide⟩⟩, HB0.out, World.ownsRow_nil _ _ _ _, HW0, ⟨Nat.zero_le _, Nat.zero_le _⟩, by omega, by unfold runL; rw [HL.out]⟩
  case round =>
    clear HM0 HB0 HW0
    obtain ⟨k, hk, rfl, bb, rfl, hbb, a, x, c, pl, f, HM, HO, HB, hown, hb, hpl, HF⟩ := hrel
    obtain ⟨W, rfl⟩ : ∃ wo : World, wo = wr := ⟨_, rfl⟩
    by_cases hlt : k < len0
    · have hkl : k < p.length := by rw [HL.out]; exact hlt
      obtain ⟨b, o, rfl, hbB, hc⟩ := HR.out (by omega)
      have hat := hc k hkl
      have hok := Lib.hid (HP.out.get hkl)
      obtain ⟨i, hi⟩ : ∃ i, i = p[k] := ⟨_, rfl⟩
      rw [← hi] at hat hok
      have HG := Lib.hid (show p[k]? = some i by rw [hi]; exact List.getElem?_eq_getElem hkl)
      have hat2 := hat.keep (w' := W) fun q hq => hb.cell (by omega)
      obtain ⟨q0, q1, q2, q3⟩ := hat2
      obtain ⟨y0, y1, y2, y3, y4, y5, y6, y7, y8⟩ := HB.out.cells
      have hbM : b ≠ w.heap.size + 1 := by omega
      have hfuel : ∃ g, f = g + 1 := ⟨f - 1, by have := HF.out.1; omega⟩
      obtain ⟨f, rfl⟩ := hfuel
      have hMl : w.heap.size + 1 < W.heap.size := HM.out.lt
      clear hi hc hat
      cases hdo : doI i d a x c with
      | bad er =>
        have hres : runL p d = ⟨0, pl.length, pl ++ [k], er⟩ := by
          rw [← HF.out.2]; simp only [runF, HG.out, hdo]
        have he := doI_bad hdo
        have he1 : (er != 0) = true := by simp; omega
        have he2 : ¬ er = 0 := by omega
        have he3 : er ≤ 45 := he.2
        have HC := Lib.hid (fun V hm => refDo i hok.out d HD.out a x c HO.out (w.heap.size + 1) V hm)
        rw [hdo] at HC
        unfold DoTo datV datC at HC
        simp only at HC
        obtain ⟨m, hm⟩ : ∃ m, m = pl.length := ⟨_, rfl⟩
        have hm1 : m ≤ len0 := by rw [hm]; exact hpl.out.2
        have HOW := Lib.hid hown
        rw [← hm] at HOW
        have HM' := Lib.hid hm
        clear HF HG hfd he
        clear hdo hown hpl hm
        go_wp2_with fail
        go_region_held3 (fun w' => w'.cell? ⟨b, o + k * 4, none⟩ = some (.int .u16 i.c) ∧ w'.cell? ⟨b, o + k * 4 + 1, none⟩ = some (.int .u8 i.jt) ∧ w'.cell? ⟨b, o + k * 4 + 2, none⟩ = some (.int .u8 i.jf) ∧ w'.cell? ⟨b, o + k * 4 + 3, none⟩ = some (.int .u32 i.k) ∧ w'.cell? ⟨w.heap.size, 0, none⟩ = some (.int .u32 d.nr) ∧ w'.cell? ⟨w.heap.size, 1, none⟩ = some (.int .u32 d.arch) ∧ w'.cell? ⟨w.heap.size, 2, none⟩ = some (.int .u64 d.ip) ∧ w'.cell? ⟨w.heap.size, 3, none⟩ = some (.int .u64 d.a0) ∧ w'.cell? ⟨w.heap.size, 4, none⟩ = some (.int .u64 d.a1) ∧ w'.cell? ⟨w.heap.size, 5, none⟩ = some (.int .u64 d.a2) ∧ w'.cell? ⟨w.heap.size, 6, none⟩ = some (.int .u64 d.a3) ∧ w'.cell? ⟨w.heap.size, 7, none⟩ = some (.int .u64 d.a4) ∧ w'.cell? ⟨w.heap.size, 8, none⟩ = some (.int .u64 d.a5))
          (first | with_reducible assumption | exact dw13 ⟨q0, q1, q2, q3, y0, y1, y2, y3, y4, y5, y6, y7, y8⟩ | ((with_reducible refine but13 g3 hbM hbM hbM hbM ?_ ?_ ?_ ?_ ?_ ?_ ?_ ?_ ?_ ?_) <;> first | omega | assumption)) (first
          | (go_at_call 18; ((with_reducible refine (HC.out _ HM.out.dr).mono ?_); rintro e w3 ⟨g3, rfl⟩)))
        have HW3 := Lib.hid (own_but (show W.drew.ownsRow (w.heap.size + 2) 3 1 u9 m (plV pl) from HOW.out) g3 (by omega))
        have hb3 : Below w.heap.size w w3 := below_but hb.drew g3 (by omega)
        have hc1 : m + 1 ≤ maxLen := by unfold maxLen; omega
        have hc2 : (m + 1) * 8 ≤ 140737488355328 := by omega
        have hc3 : w.heap.size + 2 ≤ (w3.alloc (.cells #[.int .i64 (k : Int)] 3)).heap.size := by have := g3.size; simp only [World.size_alloc, drew_sz] at this ⊢; omega
        have hz3 : w.heap.size + 1 < w3.heap.size := by have := g3.size; simp only [drew_sz] at this; omega
        have hbA : Below (w.heap.size + 2) w3 (w3.alloc (.cells #[.int .i64 (k : Int)] 3)) := (Below.refl _ _).alloc (by omega) _
        have hla : ∀ g, Value.ownBlock u9 = some g → w.heap.size + 2 ≤ g := fun g hg => (HW3.out.lt g hg).1
        go_wp2_with (first
          | (at_builtin
             refine wpList_append_own _ rfl (.tmp 31) (.tmp 33) 32 rfl (w.heap.size + 2) 3 i0 _ 1 8 Tryd.underlying32 HI.out H0.out H1.out H2.out rfl Nat.one_pos u9 m (plV pl) rfl (HW3.out.alloc _) ⟨w3.heap.size, 0, none⟩ 1 1 [.int .i64 (k : Int)] rfl rfl (news_lit w3 _ _ _ rfl) (plV_one [k]) hc1 hc2 hc3 ?_
             intro v4 w4 o4 hg4 _
             have b4 : Below (w.heap.size + 2) w3 w4 := hbA.grown hg4 hc3 hla
             have HO4 := Lib.hid o4
             obtain ⟨q4, c4, rfl⟩ := own_form HO4.out
             clear o4 hg4))
        have hbl : Below w.heap.size w w4 := hb3.trans (b4.mono (by omega))
        refine bodyPost_ret (v := .tuple #[.int .u32 0, .int .i64 m, .slice q4 (m + 1) c4, .int .i64 er]) (by simp [results, Tryd.results11, go_sem]) rfl ⟨_, by rw [hres, HM'.out], ?_, hbl⟩
        have h4 := own_mono HO4.out (by omega : w.heap.size ≤ w.heap.size + 2)
        rw [hres]
        simp only [List.length_append, List.length_cons, List.length_nil, ← HM'.out]
        rw [plV_snoc]
        exact h4
      | fin v =>
        have hres : runL p d = ⟨v, pl.length + 1, pl ++ [k], 0⟩ := by
          rw [← HF.out.2]; simp only [runF, HG.out, hdo]
        have HC := Lib.hid (fun V hm => refDo i hok.out d HD.out a x c HO.out (w.heap.size + 1) V hm)
        rw [hdo] at HC
        unfold DoTo datV datC at HC
        simp only at HC
        obtain ⟨m, hm⟩ : ∃ m, m = pl.length := ⟨_, rfl⟩
        have hm1 : m ≤ len0 := by rw [hm]; exact hpl.out.2
        have HOW := Lib.hid hown
        rw [← hm] at HOW
        have HM' := Lib.hid hm
        clear HF HG hfd
        clear hdo hown hpl hm
        go_wp2_with fail
        go_region_held3 (fun w' => w'.cell? ⟨b, o + k * 4, none⟩ = some (.int .u16 i.c) ∧ w'.cell? ⟨b, o + k * 4 + 1, none⟩ = some (.int .u8 i.jt) ∧ w'.cell? ⟨b, o + k * 4 + 2, none⟩ = some (.int .u8 i.jf) ∧ w'.cell? ⟨b, o + k * 4 + 3, none⟩ = some (.int .u32 i.k) ∧ w'.cell? ⟨w.heap.size, 0, none⟩ = some (.int .u32 d.nr) ∧ w'.cell? ⟨w.heap.size, 1, none⟩ = some (.int .u32 d.arch) ∧ w'.cell? ⟨w.heap.size, 2, none⟩ = some (.int .u64 d.ip) ∧ w'.cell? ⟨w.heap.size, 3, none⟩ = some (.int .u64 d.a0) ∧ w'.cell? ⟨w.heap.size, 4, none⟩ = some (.int .u64 d.a1) ∧ w'.cell? ⟨w.heap.size, 5, none⟩ = some (.int .u64 d.a2) ∧ w'.cell? ⟨w.heap.size, 6, none⟩ = some (.int .u64 d.a3) ∧ w'.cell? ⟨w.heap.size, 7, none⟩ = some (.int .u64 d.a4) ∧ w'.cell? ⟨w.heap.size, 8, none⟩ = some (.int .u64 d.a5))
          (first | with_reducible assumption | exact dw13 ⟨q0, q1, q2, q3, y0, y1, y2, y3, y4, y5, y6, y7, y8⟩ | ((with_reducible refine but13 g3 hbM hbM hbM hbM ?_ ?_ ?_ ?_ ?_ ?_ ?_ ?_ ?_ ?_) <;> first | omega | assumption)) (first
          | (go_at_call 18; ((with_reducible refine (HC.out _ HM.out.dr).mono ?_); rintro e w3 ⟨g3, rfl, ⟨a2, x2, c2, hm2⟩⟩)))
        have HW3 := Lib.hid (own_but (show W.drew.ownsRow (w.heap.size + 2) 3 1 u9 m (plV pl) from HOW.out) g3 (by omega))
        have hb3 : Below w.heap.size w w3 := below_but hb.drew g3 (by omega)
        have hc1 : m + 1 ≤ maxLen := by unfold maxLen; omega
        have hc2 : (m + 1) * 8 ≤ 140737488355328 := by omega
        have hc3 : w.heap.size + 2 ≤ (w3.alloc (.cells #[.int .i64 (k : Int)] 3)).heap.size := by have := g3.size; simp only [World.size_alloc, drew_sz] at this ⊢; omega
        have hz3 : w.heap.size + 1 < w3.heap.size := by have := g3.size; simp only [drew_sz] at this; omega
        have hbA : Below (w.heap.size + 2) w3 (w3.alloc (.cells #[.int .i64 (k : Int)] 3)) := (Below.refl _ _).alloc (by omega) _
        have hla : ∀ g, Value.ownBlock u9 = some g → w.heap.size + 2 ≤ g := fun g hg => (HW3.out.lt g hg).1
        have HM2 := Lib.hid hm2
        clear hm2
        go_wp2_with (first
          | (at_builtin
             refine wpList_append_own _ rfl (.tmp 31) (.tmp 33) 32 rfl (w.heap.size + 2) 3 i0 _ 1 8 Tryd.underlying32 HI.out H0.out H1.out H2.out rfl Nat.one_pos u9 m (plV pl) rfl (HW3.out.alloc _) ⟨w3.heap.size, 0, none⟩ 1 1 [.int .i64 (k : Int)] rfl rfl (news_lit w3 _ _ _ rfl) (plV_one [k]) hc1 hc2 hc3 ?_
             intro v4 w4 o4 hg4 _
             have b4 : Below (w.heap.size + 2) w3 w4 := hbA.grown hg4 hc3 hla
             have HO4 := Lib.hid o4
             obtain ⟨q4, c4, rfl⟩ := own_form HO4.out
             clear o4 hg4; have HM4 := Lib.hid (show MachAt w4 (w.heap.size + 1) a2 x2 v c2 true from (b4.block _ (by omega)).trans HM2.out); have p2 := HM4.out.cell 2 _ rfl; have p4 := HM4.out.cell 19 _ rfl))
        have hbl : Below w.heap.size w w4 := hb3.trans (b4.mono (by omega))
        refine bodyPost_ret (v := .tuple #[.int .u32 v, .int .i64 (m + 1 : Nat), .slice q4 (m + 1) c4, .int .i64 0]) (by simp [results, Tryd.results11, go_sem]) rfl ⟨_, by rw [hres, HM'.out], ?_, hbl⟩
        have h4 := own_mono HO4.out (by omega : w.heap.size ≤ w.heap.size + 2)
        rw [hres]
        simp only [List.length_append, List.length_cons, List.length_nil, ← HM'.out]
        rw [plV_snoc]
        exact h4
      | go a' x' c' n =>
        have HC := Lib.hid (fun V hm => refDo i hok.out d HD.out a x c HO.out (w.heap.size + 1) V hm)
        rw [hdo] at HC
        unfold DoTo datV datC at HC
        simp only at HC
        obtain ⟨m, hm⟩ : ∃ m, m = pl.length := ⟨_, rfl⟩
        have hm1 : m ≤ len0 := by rw [hm]; exact hpl.out.2
        have HOW := Lib.hid hown
        rw [← hm] at HOW
        have HM' := Lib.hid hm
        have HNX := Lib.hid (show runF p d f (k + 1 + n) a' x' c' (if isJump i.c then 42 else 46) (pl ++ [k]) = runL p d by rw [← HF.out.2]; simp only [runF, HG.out, hdo])
        have HFU := Lib.hid HF.out.1
        have HN4 := Lib.hid (skip_small hok.out hdo)
        have hcl := jump_cls (go_known hok.out hdo)
        have HOK : Hid (OkM a' x' c') := Lib.hid (by have := doI_range hok.out d HO.out.1 HO.out.2.1 HO.out.2.2; rw [hdo] at this; exact this)
        have HOF := Lib.hid (fun W => refOf_any i.c W)
        have HPL := Lib.hid hpl.out
        clear HF HG
        clear hdo hown hpl hm
        obtain ⟨⟨oc, on, kl⟩, hoo⟩ : ∃ o, o = ofL allL i.c := ⟨_, rfl⟩
        rw [← hoo] at HOF hcl
        clear hoo
        simp only at HOF hcl
        go_wp2_with fail
        go_region_held3 (fun w' => w'.cell? ⟨b, o + k * 4, none⟩ = some (.int .u16 i.c) ∧ w'.cell? ⟨b, o + k * 4 + 1, none⟩ = some (.int .u8 i.jt) ∧ w'.cell? ⟨b, o + k * 4 + 2, none⟩ = some (.int .u8 i.jf) ∧ w'.cell? ⟨b, o + k * 4 + 3, none⟩ = some (.int .u32 i.k) ∧ w'.cell? ⟨w.heap.size, 0, none⟩ = some (.int .u32 d.nr) ∧ w'.cell? ⟨w.heap.size, 1, none⟩ = some (.int .u32 d.arch) ∧ w'.cell? ⟨w.heap.size, 2, none⟩ = some (.int .u64 d.ip) ∧ w'.cell? ⟨w.heap.size, 3, none⟩ = some (.int .u64 d.a0) ∧ w'.cell? ⟨w.heap.size, 4, none⟩ = some (.int .u64 d.a1) ∧ w'.cell? ⟨w.heap.size, 5, none⟩ = some (.int .u64 d.a2) ∧ w'.cell? ⟨w.heap.size, 6, none⟩ = some (.int .u64 d.a3) ∧ w'.cell? ⟨w.heap.size, 7, none⟩ = some (.int .u64 d.a4) ∧ w'.cell? ⟨w.heap.size, 8, none⟩ = some (.int .u64 d.a5))
          (first | with_reducible assumption | exact dw13 ⟨q0, q1, q2, q3, y0, y1, y2, y3, y4, y5, y6, y7, y8⟩ | ((with_reducible refine but13 g3 hbM hbM hbM hbM ?_ ?_ ?_ ?_ ?_ ?_ ?_ ?_ ?_ ?_) <;> first | omega | assumption)) (first
          | (go_at_call 18; ((with_reducible refine (HC.out _ HM.out.dr).mono ?_); rintro e w3 ⟨g3, rfl, hm2⟩)))
        have HW3 := Lib.hid (own_but (show W.drew.ownsRow (w.heap.size + 2) 3 1 u9 m (plV pl) from HOW.out) g3 (by omega))
        have hb3 : Below w.heap.size w w3 := below_but hb.drew g3 (by omega)
        have hc1 : m + 1 ≤ maxLen := by unfold maxLen; omega
        have hc2 : (m + 1) * 8 ≤ 140737488355328 := by omega
        have hc3 : w.heap.size + 2 ≤ (w3.alloc (.cells #[.int .i64 (k : Int)] 3)).heap.size := by have := g3.size; simp only [World.size_alloc, drew_sz] at this ⊢; omega
        have hz3 : w.heap.size + 1 < w3.heap.size := by have := g3.size; simp only [drew_sz] at this; omega
        have hbA : Below (w.heap.size + 2) w3 (w3.alloc (.cells #[.int .i64 (k : Int)] 3)) := (Below.refl _ _).alloc (by omega) _
        have hla : ∀ g, Value.ownBlock u9 = some g → w.heap.size + 2 ≤ g := fun g hg => (HW3.out.lt g hg).1
        have HM2 := Lib.hid hm2
        clear hm2
        have r0 := cell_but (p := ⟨b, o + k * 4, none⟩) g3 hbM (show W.drew.cell? ⟨b, o + k * 4, none⟩ = _ from q0)
        have hbB2 : b < w.heap.size + 2 := by omega
        have HB3 := Lib.hid (BoxD.but (show BoxD W.drew w.heap.size d from HB.out) g3 (by omega))
        cases hj : isJump i.c with
        | true =>
          rw [hj] at hcl
          have t1 := of_decide_eq_true hcl
          subst t1
          clear hcl
          have n1 : (n : Int) < 4294967296 := by have := HN4.out; omega
          have k1 : (k : Int) < 1000 := by omega
          go_wp2_with (first
            | (at_builtin
               refine wpList_append_own _ rfl (.tmp 31) (.tmp 33) 32 rfl (w.heap.size + 2) 3 i0 _ 1 8 Tryd.underlying32 HI.out H0.out H1.out H2.out rfl Nat.one_pos u9 m (plV pl) rfl (HW3.out.alloc _) ⟨w3.heap.size, 0, none⟩ 1 1 [.int .i64 (k : Int)] rfl rfl (news_lit w3 _ _ _ rfl) (plV_one [k]) hc1 hc2 hc3 ?_
               intro v4 w4 o4 hg4 _
               have b4 : Below (w.heap.size + 2) w3 w4 := hbA.grown hg4 hc3 hla
               have HO4 := Lib.hid o4
               obtain ⟨q4, c4, rfl⟩ := own_form HO4.out
               clear o4 hg4; have HM4 := Lib.hid (show MachAt w4 (w.heap.size + 1) a' x' 0 c' false from (b4.block _ (by omega)).trans HM2.out); have p4 := HM4.out.cell 19 _ rfl; have s0 := (b4.cell (p := ⟨b, o + k * 4, none⟩) hbB2).trans r0)
            | (go_at_call 19; ((with_reducible refine (HOF.out _).mono ?_); rintro e w5 ⟨rfl, b5⟩)))
          go_roundw
          case rel =>
            have hn4 := HN4.out
            have hbl : Below w.heap.size w w4 := hb3.trans (b4.mono (by omega))
            refine ⟨k + 1 + n, by omega, by go_num, 42, rfl, by decide, a', x', c', pl ++ [k], f, Lib.hid (HM4.out.on b5), HOK, Lib.hid (BoxD.on (show BoxD w4 w.heap.size d from (b4.block _ (by omega)).trans HB3.out) b5), ?_, thn hbl b5, ?_, ?_⟩
            · have h5 := own_on HO4.out b5
              rw [plV_snoc, List.length_append, ← HM'.out]
              exact h5
            · have h6 := HPL.out; refine Lib.hid ⟨?_, ?_⟩ <;> (rw [List.length_append]; simp only [List.length_cons, List.length_nil]; omega)
            · refine Lib.hid ⟨by have := HFU.out; omega, ?_⟩
              have h7 := HNX.out
              rw [hj] at h7
              exact h7
          case measure => (have hn4 := HN4.out; simp [intOf]; omega)
        | false =>
          rw [hj] at hcl
          have t1 := of_decide_eq_false hcl
          have t2 := beq_eq_false_iff_ne.2 t1
          clear hcl
          have n1 : (n : Int) < 4294967296 := by have := HN4.out; omega
          have k1 : (k : Int) < 1000 := by omega
          go_wp2_with (first
            | (at_builtin
               refine wpList_append_own _ rfl (.tmp 31) (.tmp 33) 32 rfl (w.heap.size + 2) 3 i0 _ 1 8 Tryd.underlying32 HI.out H0.out H1.out H2.out rfl Nat.one_pos u9 m (plV pl) rfl (HW3.out.alloc _) ⟨w3.heap.size, 0, none⟩ 1 1 [.int .i64 (k : Int)] rfl rfl (news_lit w3 _ _ _ rfl) (plV_one [k]) hc1 hc2 hc3 ?_
               intro v4 w4 o4 hg4 _
               have b4 : Below (w.heap.size + 2) w3 w4 := hbA.grown hg4 hc3 hla
               have HO4 := Lib.hid o4
               obtain ⟨q4, c4, rfl⟩ := own_form HO4.out
               clear o4 hg4; have HM4 := Lib.hid (show MachAt w4 (w.heap.size + 1) a' x' 0 c' false from (b4.block _ (by omega)).trans HM2.out); have p4 := HM4.out.cell 19 _ rfl; have s0 := (b4.cell (p := ⟨b, o + k * 4, none⟩) hbB2).trans r0)
            | (go_at_call 19; ((with_reducible refine (HOF.out _).mono ?_); rintro e w5 ⟨rfl, b5⟩)))
          go_roundw
          case rel =>
            have hn4 := HN4.out
            have hbl : Below w.heap.size w w4 := hb3.trans (b4.mono (by omega))
            refine ⟨k + 1 + n, by omega, by go_num, 46, rfl, by decide, a', x', c', pl ++ [k], f, Lib.hid (HM4.out.on b5), HOK, Lib.hid (BoxD.on (show BoxD w4 w.heap.size d from (b4.block _ (by omega)).trans HB3.out) b5), ?_, thn hbl b5, ?_, ?_⟩
            · have h5 := own_on HO4.out b5
              rw [plV_snoc, List.length_append, ← HM'.out]
              exact h5
            · have h6 := HPL.out; refine Lib.hid ⟨?_, ?_⟩ <;> (rw [List.length_append]; simp only [List.length_cons, List.length_nil]; omega)
            · refine Lib.hid ⟨by have := HFU.out; omega, ?_⟩
              have h7 := HNX.out
              rw [hj] at h7
              exact h7
          case measure => simp [intOf]; omega
    · have hnone : p[k]? = none := List.getElem?_eq_none (by rw [HL.out]; omega)
      have hres : runL p d = ⟨0, pl.length, pl, bb⟩ := by
        rw [← HF.out.2]
        cases f with
        | zero => rfl
        | succ f => simp only [runF, hnone]
      rw [hres]
      unfold RunTo
      clear HF hres hnone
      have hge : (len0 : Int) ≤ k := by omega
      have hpn : pl.length ≤ len0 := hpl.out.2
      obtain ⟨q, c2, rfl⟩ := own_form hown
      have HOW := Lib.hid (own_mono hown (by omega : w.heap.size ≤ w.heap.size + 2))
      obtain ⟨n, hnn⟩ : ∃ n, n = pl.length := ⟨_, rfl⟩
      rw [← hnn] at hpn HOW ⊢
      clear hown hpl hnn
      go_wp2_with fail
      refine bodyPost_ret (v := .tuple #[.int .u32 0, .int .i64 n, .slice q n c2, .int .i64 bb]) (by simp [results, Tryd.results11, go_sem]) rfl ⟨_, rfl, HOW.out, hb⟩
end Go.Proofs.YtinfbmfmmbibbaaDoor
