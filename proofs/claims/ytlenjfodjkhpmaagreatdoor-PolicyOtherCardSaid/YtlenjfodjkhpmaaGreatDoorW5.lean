/- The variables that the statements list, as their conditions give them: the tables of architectures, names and words, the library's table and two errors. And a world that meets the conditions. -/
import Derived.Test.YtlenjfodjkhpmaaGreatDoorR4
import Derived.Test.YtlenjfodjkhpmaaGreatDoorBk
import Derived.Test.YtlenjfodjkhpmaaGreatDoorKr
import Derived.Test.YtlenjfodjkhpmaaGreatDoorJp
import Derived.Test.YtlenjfodjkhpmaaGreatDoorF1
import Derived.Deep.AppendLies
import Derived.Deep.RegionLaw
import Derived.StillTailTactics
import Derived.Test.YtlenjfodjkhpmaaGreatDoorP3
import Derived.Test.YtlenjfodjkhpmaaGreatDoorLz
import Derived.Lib.LaidTab
import Derived.ProofKit
import Derived.LaidMore
import Derived.OpenShut
import Derived.Stop.Joined
import Derived.MakeChecks
import Derived.Test.YtlenjfodjkhpmaaGreatDoorRows
namespace Go.Proofs.YtlenjfodjkhpmaaGreatDoor
set_option maxRecDepth 100000
open Go.Lib (hid)
open Go.RowKit Go.Shelf
set_option linter.unusedVariables false
set_option linter.unusedSimpArgs false
attribute [local go_sem ↓] Go.wp_at_zero Go.wp_at_succ

structure G18 (w : World) : Prop where
 ar : GA8 w
 nm : GN w
 boo : LaidAt w 4 boolC
theorem G18.on {w w' : World} (h : G18 w) (b : Below w.heap.size w w') : G18 w' := ⟨h.ar.on b, h.nm.on b, h.boo.on (by decide) b⟩
def stC (p : Pls) (P : Pol) (a : As) (v : Value) : List Value := plC p P ++ asC a ++ [v]
theorem stC_len (p : Pls) (P : Pol) (a : As) (v : Value) : (stC p P a v).length = 19 := rfl
structure St (B b : Nat) (w : World) (p : Pls) (P : Pol) (a : As) (v : Value) (N : List Nte) : Prop where
 box : w.heap[b]? = some (.cells (stC p P a v).toArray 136 (0, 0))
 own : OwnP B w p P
 nts : w.ownsRow B 57 4 v N.length (rowC encN N)
 hb : B ≤ b
def Keep2 (T U : TypeId) (w w' : World) : Prop := ∀ (g : Nat) (cs : Array Value) (t : TypeId) (fz : Nat × Nat), t ≠ T → t ≠ U → w.heap[g]? = some (.cells cs t fz) → w'.heap[g]? = some (.cells cs t fz)
theorem Keep2.own {T U : TypeId} {w w' : World} (k : Keep2 T U w w') {B s n : Nat} {t : TypeId} {v : Value} {xs : List Value} (ht : t ≠ T) (hu : t ≠ U) (h : w.ownsRow B t s v n xs) : w'.ownsRow B t s v n xs := owns_same16 h fun g cs fz _ hg => k g cs t fz ht hu hg
theorem Keep2.ahead {T U : TypeId} {u w w' : World} (b : Below u.heap.size u w) (k : Keep2 T U w w') : Keep2 T U u w' := fun g cs t fz ht hu hg => k g cs t fz ht hu ((b.block g (Array.getElem?_eq_some_iff.1 hg).1).trans hg)
section
variable {B b : Nat} {w w' : World} {p p' : Pls} {P P' : Pol} {a : As} {v v' : Value} {N N' : List Nte}
theorem St.lt (h : St B b w p P a v N) : b < w.heap.size := blk_lt h.box
theorem St.le (h : St B b w p P a v N) : B ≤ w.heap.size := Nat.le_trans h.hb (Nat.le_of_lt h.lt)
theorem St.on (h : St B b w p P a v N) (k : Below w.heap.size w w') : St B b w' p P a v N := ⟨blk_on h.box k, h.own.on k, owns_on16 h.nts k, h.hb⟩
theorem St.cell (h : St B b w p P a v N) (i : Nat) (u : Value) (hu : (stC p P a v)[i]? = some u) : w.cell? ⟨b, i, none⟩ = some u := (cell_of_row w b i _ _ (0, 0) h.box).trans (by simpa using hu)
theorem St.frz (h : St B b w p P a v N) (i : Nat) : w.frozen? ⟨b, i, none⟩ = false := frozen_of_row w b i _ _ h.box
theorem KeepT.cell {T : TypeId} {W : World} {g i : Nat} {cs : Array Value} {fz : Nat × Nat} (hg : W.heap[g]? = some (.cells cs T fz)) (x : Value) : KeepT T W (W.setCell ⟨g, i, none⟩ x) := fun k cs2 t fz2 ht hk =>
 (heap_setCell_other W ⟨g, i, none⟩ k x (fun e => ne_type16 hk hg ht e)).trans hk
theorem OwnP.kept {T : TypeId} (h : OwnP B w p P) (k : KeepT T w w') (h1 : 3 ≠ T) (h2 : 67 ≠ T) (h3 : 28 ≠ T) : OwnP B w' p P := ⟨h.al, h.fl, h.ll, h.ml, k.own h1 h.ar, k.own h2 h.fi, k.own h2 h.lo, k.own h3 h.fa⟩
theorem St.set (h : St B b w p P a v N) (i : Nat) (x : Value) (hi : i < 19) (hc : (stC p P a v).take i ++ [x] ++ (stC p P a v).drop (i + 1) = stC p' P' a v') (ho : OwnP B w p' P') (hn : w.ownsRow B 57 4 v' N'.length (rowC encN N')) : St B b (w.setCell ⟨b, i, none⟩ x) p' P' a v' N' := by
 have k := KeepT.cell (i := i) h.box x
 refine ⟨?_, ho.kept k (by decide) (by decide) (by decide), k.own (by decide) hn, h.hb⟩
 rw [set_cell18 h.box x i (by rw [stC_len]; exact hi), hc]
theorem St.low (h : St B b w p P a v N) (i : Nat) (x : Value) : Below B w (w.setCell ⟨b, i, none⟩ x) := (Below.refl B w).setCell (p := ⟨b, i, none⟩) h.hb x
theorem St.arch {q : Option Addr} {n c : Nat} {L : List Int} (h : St B b w p P a v N) (k : KeepT 3 w w') (ho : w'.ownsRow B 3 1 (.slice q n c) n (L.map (Value.int .i64))) (hn : n = L.length) : w'.heap[b]? = some (.cells (stC p P a v).toArray 136 (0, 0)) ∧ OwnP B w' { p with aq := q, an := n, ac := c } { P with ar := L } ∧ w'.ownsRow B 57 4 v N.length (rowC encN N) :=
 ⟨k b _ _ _ (by decide) h.box, ⟨hn, h.own.fl, h.own.ll, h.own.ml, ho, k.own (by decide) h.own.fi, k.own (by decide) h.own.lo, k.own (by decide) h.own.fa⟩, k.own (by decide) h.nts⟩
theorem St.fams {q : Option Addr} {n c : Nat} {L : List Nat} (h : St B b w p P a v N) (k : KeepT 28 w w') (ho : w'.ownsRow B 28 1 (.slice q n c) n ((L.map fun (x : Nat) => (x : Int)).map (Value.int .u32))) (hn : n = L.length) : w'.heap[b]? = some (.cells (stC p P a v).toArray 136 (0, 0)) ∧ OwnP B w' { p with mq := q, mn := n, mc := c } { P with fa := L } ∧ w'.ownsRow B 57 4 v N.length (rowC encN N) :=
 ⟨k b _ _ _ (by decide) h.box, ⟨h.own.al, h.own.fl, h.own.ll, hn, k.own (by decide) h.own.ar, k.own (by decide) h.own.fi, k.own (by decide) h.own.lo, ho⟩, k.own (by decide) h.nts⟩
theorem St.noted (h : St B b w p P a v N) (hg : w.grownBy w' v.ownBlock) (ho : w'.ownsRow B 57 4 v' N'.length (rowC encN N')) : w'.heap[b]? = some (.cells (stC p P a v).toArray 136 (0, 0)) ∧ St B b (w'.setCell ⟨b, 18, none⟩ v') p P a v' N' ∧ Below B w (w'.setCell ⟨b, 18, none⟩ v') ∧ Keep2 57 136 w (w'.setCell ⟨b, 18, none⟩ v') := by
 have hk : KeepT 57 w w' ∧ Below B w w' := by
  rcases h.nts.2 with ⟨hv, _⟩ | ⟨g, cap, cur, hv, hgB, hh, _⟩
  ·rw [hv] at hg
   exact ⟨KeepT.grown0 hg, below_grown18 hg h.le (fun k e => by cases e)⟩
  ·rw [hv] at hg
   exact ⟨KeepT.grown hh hg, below_grown18 hg h.le (fun k e => by injection e with e; rw [← e]; exact hgB)⟩
 have hb := hk.1 b _ _ _ (by decide) h.box
 have h2 : St B b w' p P a v N' → True := fun _ => trivial
 have hs : (w'.setCell ⟨b, 18, none⟩ v').heap[b]? = some (.cells (stC p P a v').toArray 136 (0, 0)) := by
  rw [set_cell18 hb v' 18 (by rw [stC_len]; decide)]
  rfl
 have k2 := KeepT.cell (i := 18) hb v'
 exact ⟨hb, ⟨hs, (h.own.kept hk.1 (by decide) (by decide) (by decide)).kept k2 (by decide) (by decide) (by decide), k2.own (by decide) ho, h.hb⟩, hk.2.setCell (p := ⟨b, 18, none⟩) h.hb v', fun g cs t fz ht hu hg => k2 g cs t fz hu (hk.1 g cs t fz ht hg)⟩
end
theorem words_c18 (s : ByteArray) (w : World) (hs : s.size ≤ 1000000) : Calls Tryz.prog 154 #[.string s] w fun e w' => ∃ q c, e = .returned (.slice q (wdL s.data.toList).length c) ∧ w'.ownsRow w.heap.size 9 1 (.slice q (wdL s.data.toList).length c) (wdL s.data.toList).length (sL (wdL s.data.toList)) ∧ Below w.heap.size w w' := by
 have HA := hid (fun W => among15 (⟨#[32, 9, 13]⟩ : ByteArray) W)
 have eg : ∀ args w, (callFunc 209 args).run Tryz.prog w = .ok (.enter 209 args) w := enters_of Tryz.func209 (by kernel_rfl) rfl
 have HT := Tryz.strings_FieldsFunc_grows 209 _ eg whR15 s (w.alloc (.cells #[.string (⟨#[32, 9, 13]⟩ : ByteArray)] 9)) (by omega) (among_pays15 w.heap.size _ (Boxed.new w _ _))
 rw [fields_words, List.length_map] at HT
 have HT := hid HT
 have HB := hid (ball w (.cells #[.string (⟨#[32, 9, 13]⟩ : ByteArray)] 9))
 obtain ⟨L, hL⟩ : ∃ L, L = wdL s.data.toList := ⟨_, rfl⟩
 rw [← hL] at HT ⊢
 clear hs eg hL
 go_enter Tryz.func154, Tryz.ntmps154
 go_wp2_with (first
  | (go_at_call 181; ((with_reducible refine (HA.out _).mono ?_); rintro e w1 ⟨rfl, rfl⟩))
  | (go_at_call 180; ((with_reducible refine (HT.out).mono ?_); rintro e w2 ⟨A, rfl, hA, ho, b2⟩)))
 go_ret
 exact ⟨_, _, rfl, owns_low16 (by rw [List.map_map] at ho; exact ho) HB.out.size, th2 HB.out b2⟩
theorem news_row18 (W : World) (cs : List Value) (T : TypeId) : ∀ j u, cs[j]? = some u → (W.alloc (.cells cs.toArray T)).cell? ((⟨W.heap.size, 0, none⟩ : Addr).add j) = some u := fun j u hu => by
 rw [Addr.add_lit, cell_of_row _ _ _ _ _ (0, 0) (heap_alloc_new W _), Nat.zero_add]
 simpa using hu
theorem own_next18 {w' : World} {B : Nat} {v' : Value} {N : List Nte} {x : Nte} (ho : w'.ownsRow B 57 4 v' (N.length + 1) (rowC encN N ++ encN x)) : w'.ownsRow B 57 4 v' (N ++ [x]).length (rowC encN (N ++ [x])) := by
 rw [List.length_append, rowC_app]
 simpa [rowC] using ho
set_option maxHeartbeats 16000000 in
theorem note_c18 (B b : Nat) (W0 : World) (p : Pls) (P : Pol) (a : As) (v : Value) (N : List Nte) (E : Int) (x : ByteArray) (h : St B b W0 p P a v N) (hN : N.length ≤ 100000) : Calls Tryz.prog 156 #[.pointer (some ⟨b, 0, none⟩), .int .i64 E, .string x] W0 fun e w' => e = .returned (.tuple #[]) ∧ (∃ v', St B b w' p P a v' (N ++ [⟨a.file, a.line, E, bs (x.data.toList.take 60)⟩])) ∧ Below B W0 w' ∧ Keep2 57 136 W0 w' := by
 obtain ⟨i0, hi0, hz0, hz1, hz2⟩ := info_parts (show (Tryz.prog.info? 57).map (fun i => (i.zero, i.size, i.bytes)) = some (some (.agg #[.string ⟨#[]⟩, .int .i64 0, .int .i64 0, .string ⟨#[]⟩]), 4, 48) by kernel_rfl)
 have HI := hid hi0
 have HZ0 := hid hz0
 have HZ1 := hid hz1
 have HZ2 := hid hz2
 obtain ⟨k, hk⟩ : ∃ k, k = min x.size 60 := ⟨_, rfl⟩
 have HT := hid (show x.extract 0 k = bs (x.data.toList.take 60) by
  have h : x.size = x.data.toList.length := rfl
  rw [← bs_self x, bs_subV, bs_list, List.drop_zero, Nat.sub_zero]
  congr 1
  rw [List.take_eq_take_iff]
  omega)
 have hmin : min (x.size : Int) 60 = k := by omega
 have k0 : (0 : Int) ≤ k := by omega
 have k1 : (k : Int) ≤ x.size := by omega
 obtain ⟨af, al, ax, ak, av⟩ := a
 have SK := hid (fun (Y : World) (v' : Value) (N' : List Nte) (u : St B b Y p P ⟨af, al, ax, ak, av⟩ v' N') => (show Y.cell? ⟨b, 13, none⟩ = some (.string af) ∧ Y.cell? ⟨b, 14, none⟩ = some (.int .i64 al) from ⟨u.cell 13 (.string af) rfl, u.cell 14 (.int .i64 al) rfl⟩))
 have HS := hid (h.on (Below.refl _ _).drew)
 have c18 := HS.out.cell 18 v rfl
 have HA := hid (h.on (below16 W0 (.cells #[.string af, .int .i64 al, .int .i64 E, .string (x.extract 0 k)] 57)).drew)
 have hd18 := HA.out.cell 18 v rfl
 have HN := hid hN
 have HB0 := hid ((below16 W0 (.cells #[.string af, .int .i64 al, .int .i64 E, .string (x.extract 0 k)] 57)).drew.mono h.le)
 clear hi0 hz0 hz1 hz2 hk h hN
 go_enter Tryz.func156, Tryz.ntmps156
 go_wp2_with fail
 refine wp_region_held_drew (S := (fun w' => w'.cell? ⟨b, 13, none⟩ = some (Value.string af) ∧ w'.cell? ⟨b, 14, none⟩ = some (Value.int .i64 al))) (by kernel_rfl) ?_ (fun hHeld => ?_)
 ·exact SK.out _ _ _ HS.out
 refine take_op2 (i := 0) (v := ?_) rfl (by kernel_rfl) (by kernel_rfl) (by kernel_rfl) (fun _ _ _ h => h) (Or.inl ⟨wanted_plain rfl, ?_⟩) (by assumption) ?_
 rotate_left
 ·(intro w hSw; (try dsimp only at hSw); go_simp; try with_reducible rfl)
 intro act_ hact_; simp only [Act.put, List.setIfInBounds_toArray, List.set_cons_zero, List.set_cons_succ] at hact_; subst hact_
 refine take_op2 (i := 1) (v := ?_) rfl (by kernel_rfl) (by kernel_rfl) (by kernel_rfl) (fun _ _ _ h => h) (Or.inl ⟨wanted_plain rfl, ?_⟩) (by assumption) ?_
 rotate_left
 ·(intro w hSw; (try dsimp only at hSw); go_simp; try with_reducible rfl)
 intro act_ hact_; simp only [Act.put, List.setIfInBounds_toArray, List.set_cons_zero, List.set_cons_succ] at hact_; subst hact_
 refine take_op2 (i := 2) (v := ?_) rfl (by kernel_rfl) (by kernel_rfl) (by kernel_rfl) (fun _ _ _ h => h) (Or.inl ⟨wanted_plain rfl, ?_⟩) (by assumption) ?_
 rotate_left
 ·(intro w hSw; (try dsimp only at hSw); go_simp; try with_reducible rfl)
 intro act_ hact_; simp only [Act.put, List.setIfInBounds_toArray, List.set_cons_zero, List.set_cons_succ] at hact_; subst hact_
 refine take_op2 (i := 3) (v := ?_) rfl (by kernel_rfl) (by kernel_rfl) (by kernel_rfl) (fun _ _ _ h => h) (Or.inl ⟨wanted_plain rfl, ?_⟩) (by assumption) ?_
 rotate_left
 ·(intro w hSw; (try dsimp only at hSw); go_simp; try with_reducible rfl)
 intro act_ hact_; simp only [Act.put, List.setIfInBounds_toArray, List.set_cons_zero, List.set_cons_succ] at hact_; subst hact_
 refine take_op2 (i := 5) (v := ?_) rfl (by kernel_rfl) (by kernel_rfl) (by kernel_rfl) (fun _ _ _ h => h) (Or.inl ⟨wanted_plain rfl, ?_⟩) (by assumption) ?_
 rotate_left
 ·(intro w hSw; (try dsimp only at hSw); go_simp; try with_reducible rfl)
 intro act_ hact_; simp only [Act.put, List.setIfInBounds_toArray, List.set_cons_zero, List.set_cons_succ] at hact_; subst hact_
 refine take_op2 (i := 6) (v := ?_) rfl (by kernel_rfl) (by kernel_rfl) (by kernel_rfl) (fun _ _ _ h => h) (Or.inl ⟨wanted_plain rfl, ?_⟩) (by assumption) ?_
 rotate_left
 ·(intro w hSw; (try dsimp only at hSw); go_simp; try with_reducible rfl)
 intro act_ hact_; simp only [Act.put, List.setIfInBounds_toArray, List.set_cons_zero, List.set_cons_succ] at hact_; subst hact_
 refine take_op2 (i := 7) (v := ?_) rfl (by kernel_rfl) (by kernel_rfl) (by kernel_rfl) (fun _ _ _ h => h) (Or.inl ⟨wanted_plain rfl, ?_⟩) (by assumption) ?_
 rotate_left
 ·(intro w hSw; (try dsimp only at hSw); go_simp; try with_reducible rfl)
 intro act_ hact_; simp only [Act.put, List.setIfInBounds_toArray, List.set_cons_zero, List.set_cons_succ] at hact_; subst hact_
 refine take_op2 (i := 8) (v := ?_) rfl (by kernel_rfl) (by kernel_rfl) (by kernel_rfl) (fun _ _ _ h => h) (Or.inl ⟨wanted_plain rfl, ?_⟩) (by assumption) ?_
 rotate_left
 ·(intro w hSw; (try dsimp only at hSw); go_simp; try with_reducible rfl)
 intro act_ hact_; simp only [Act.put, List.setIfInBounds_toArray, List.set_cons_zero, List.set_cons_succ] at hact_; subst hact_
 refine take_op2 (i := 9) (v := ?_) rfl (by kernel_rfl) (by kernel_rfl) (by kernel_rfl) (fun _ _ _ h => h) (Or.inl ⟨wanted_plain rfl, ?_⟩) (by assumption) ?_
 rotate_left
 ·(intro w hSw; (try dsimp only at hSw); go_simp; try with_reducible rfl)
 intro act_ hact_; simp only [Act.put, List.setIfInBounds_toArray, List.set_cons_zero, List.set_cons_succ] at hact_; subst hact_
 refine take_op2 (i := 10) (v := ?_) rfl (by kernel_rfl) (by kernel_rfl) (by kernel_rfl) (fun _ _ _ h => h) (Or.inl ⟨wanted_plain rfl, ?_⟩) (by assumption) ?_
 rotate_left
 ·(intro w hSw; (try dsimp only at hSw); go_simp; try with_reducible rfl)
 intro act_ hact_; simp only [Act.put, List.setIfInBounds_toArray, List.set_cons_zero, List.set_cons_succ] at hact_; subst hact_
 refine take_op2 (i := 11) (v := ?_) rfl (by kernel_rfl) (by kernel_rfl) (by kernel_rfl) (fun _ _ _ h => h) (Or.inl ⟨wanted_plain rfl, ?_⟩) (by assumption) ?_
 rotate_left
 ·(intro w hSw; (try dsimp only at hSw); go_simp; try with_reducible rfl)
 intro act_ hact_; simp only [Act.put, List.setIfInBounds_toArray, List.set_cons_zero, List.set_cons_succ] at hact_; subst hact_
 refine take_op2 (i := 12) (v := ?_) rfl (by kernel_rfl) (by kernel_rfl) (by kernel_rfl) (fun _ _ _ h => h) (Or.inl ⟨wanted_plain rfl, ?_⟩) (by assumption) ?_
 rotate_left
 ·(intro w hSw; (try dsimp only at hSw); go_simp; try with_reducible rfl)
 intro act_ hact_; simp only [Act.put, List.setIfInBounds_toArray, List.set_cons_zero, List.set_cons_succ] at hact_; subst hact_
 refine take_op2 (i := 13) (v := ?_) rfl (by kernel_rfl) (by kernel_rfl) (by kernel_rfl) (fun _ _ _ h => h) (Or.inl ⟨wanted_plain rfl, ?_⟩) (by assumption) ?_
 rotate_left
 ·(intro w hSw; (try dsimp only at hSw); go_simp; try with_reducible rfl)
 intro act_ hact_; simp only [Act.put, List.setIfInBounds_toArray, List.set_cons_zero, List.set_cons_succ] at hact_; subst hact_
 refine take_op2 (i := 14) (v := ?_) rfl (by kernel_rfl) (by kernel_rfl) (by kernel_rfl) (fun _ _ _ h => h) (Or.inl ⟨wanted_plain rfl, ?_⟩) (by assumption) ?_
 rotate_left
 ·(intro w hSw; (try dsimp only at hSw); go_simp; try with_reducible rfl)
 intro act_ hact_; simp only [Act.put, List.setIfInBounds_toArray, List.set_cons_zero, List.set_cons_succ] at hact_; subst hact_
 refine take_op2 (i := 15) (v := ?_) rfl (by kernel_rfl) (by kernel_rfl) (by kernel_rfl) (fun _ _ _ h => h) (Or.inl ⟨wanted_plain rfl, ?_⟩) (by assumption) ?_
 rotate_left
 ·(intro w hSw; (try dsimp only at hSw); go_simp; try with_reducible rfl)
 intro act_ hact_; simp only [Act.put, List.setIfInBounds_toArray, List.set_cons_zero, List.set_cons_succ] at hact_; subst hact_
 refine take_op2 (i := 16) (v := ?_) rfl (by kernel_rfl) (by kernel_rfl) (by kernel_rfl) (fun _ _ _ h => h) (Or.inl ⟨wanted_plain rfl, ?_⟩) (by assumption) ?_
 rotate_left
 ·(intro w hSw; (try dsimp only at hSw); go_simp; try with_reducible rfl)
 intro act_ hact_; simp only [Act.put, List.setIfInBounds_toArray, List.set_cons_zero, List.set_cons_succ] at hact_; subst hact_
 refine take_op2 (i := 17) (v := ?_) rfl (by kernel_rfl) (by kernel_rfl) (by kernel_rfl) (fun _ _ _ h => h) (Or.inl ⟨wanted_plain rfl, ?_⟩) (by assumption) ?_
 rotate_left
 ·(intro w hSw; (try dsimp only at hSw); go_simp; try with_reducible rfl)
 intro act_ hact_; simp only [Act.put, List.setIfInBounds_toArray, List.set_cons_zero, List.set_cons_succ] at hact_; subst hact_
 refine take_op2 (i := 18) (v := ?_) rfl (by kernel_rfl) (by kernel_rfl) (by kernel_rfl) (fun _ _ _ h => h) (Or.inl ⟨wanted_plain rfl, ?_⟩) (by assumption) ?_
 rotate_left
 ·(intro w hSw; (try dsimp only at hSw); go_simp; try with_reducible rfl)
 intro act_ hact_; simp only [Act.put, List.setIfInBounds_toArray, List.set_cons_zero, List.set_cons_succ] at hact_; subst hact_
 refine take_op2 (i := 19) (v := ?_) rfl (by kernel_rfl) (by kernel_rfl) (by kernel_rfl) (fun _ _ _ h => h) (Or.inl ⟨wanted_plain rfl, ?_⟩) (by assumption) ?_
 rotate_left
 ·(intro w hSw; (try dsimp only at hSw); go_simp; try with_reducible rfl)
 intro act_ hact_; simp only [Act.put, List.setIfInBounds_toArray, List.set_cons_zero, List.set_cons_succ] at hact_; subst hact_
 refine take_op2 (i := 20) (v := ?_) rfl (by kernel_rfl) (by kernel_rfl) (by kernel_rfl) (fun _ _ _ h => h) (Or.inl ⟨wanted_plain rfl, ?_⟩) (by assumption) ?_
 rotate_left
 ·(intro w hSw; (try dsimp only at hSw); go_simp; try with_reducible rfl)
 intro act_ hact_; simp only [Act.put, List.setIfInBounds_toArray, List.set_cons_zero, List.set_cons_succ] at hact_; subst hact_
 refine take_op2 (i := 21) (v := ?_) rfl (by kernel_rfl) (by kernel_rfl) (by kernel_rfl) (fun _ _ _ h => h) (Or.inl ⟨wanted_plain rfl, ?_⟩) (by assumption) ?_
 rotate_left
 ·(intro w hSw; (try dsimp only at hSw); go_simp; try with_reducible rfl)
 intro act_ hact_; simp only [Act.put, List.setIfInBounds_toArray, List.set_cons_zero, List.set_cons_succ] at hact_; subst hact_
 refine wpAnyH_ready (rs := [4, 22]) (by kernel_rfl) (List.cons_ne_nil _ _) ?_
 refine AllReadyH.cons rfl (fun K hK => ?_) ?_
 ·go_simp
  refine hK.out _ _ ?_ (fun hHeld => ?_)
  ·exact SK.out _ _ _ HS.out
  clear hK K
  refine wpAnyH_ready (rs := [22]) (by kernel_rfl) (List.cons_ne_nil _ _) ?_
  refine AllReadyH.cons rfl (fun K hK => ?_) AllReadyH.nil
  go_simp
  refine hK.out _ _ ?_ (fun hHeld => ?_)
  ·exact SK.out _ _ _ HA.out
  clear hK K
  refine wpAnyH_ready (rs := [23]) (by kernel_rfl) (List.cons_ne_nil _ _) ?_
  refine AllReadyH.cons rfl (fun K hK => ?_) AllReadyH.nil
  refine step_append_lies _ (by rfl) (.tmp 10) (.tmp 28) 33 (by rfl) B 57 i0 _ 4 48 Tryz.underlying33 HI.out HZ0.out HZ1.out HZ2.out rfl (by omega) v N.length (rowC encN N) (by rfl) HA.out.nts ⟨W0.heap.size, 0, none⟩ 1 1 (encN ⟨af, al, E, x.extract 0 k⟩) (by rfl) rfl (news_row18 W0 _ _) (encN_one _) (by omega) (by have := HN.out; unfold maxLen; omega) (by have := HN.out; omega) (by show B ≤ (W0.alloc _).heap.size; rw [World.size_alloc]; exact Nat.le_succ_of_le HS.out.le) (W0.heap.size + 1) (by show (W0.alloc _).heap.size = _; rw [World.size_alloc]) ?_
  intro g6 c6 W6 o6 h6 e6 l6
  obtain ⟨q1, q2, q3, q4⟩ := St.noted HA.out h6 (own_next18 o6)
  have cc2 := (cell_of_row W6 b 18 _ _ (0, 0) q1).trans (show _ = some v from rfl)
  have ff2 := frozen_of_row W6 b 18 _ _ q1
  have a13 : W6.cell? ⟨b, 13, none⟩ = some (.string af) := (cell_of_row W6 b 13 _ _ (0, 0) q1).trans rfl
  have a14 : W6.cell? ⟨b, 14, none⟩ = some (.int .i64 al) := (cell_of_row W6 b 14 _ _ (0, 0) q1).trans rfl
  have Q2 := hid q2
  have Q3 := hid q3
  have Q4 := hid q4
  clear o6 h6 e6 l6 q1 q2 q3 q4
  change K (Act.put _ (some 29) _) _
  simp only [Act.put]
  refine hK.out _ _ ?_ (fun hHeld => ?_)
  ·exact ⟨a13, a14⟩
  clear hK K
  refine take_op2 (i := 24) (v := ?_) rfl (by kernel_rfl) (by kernel_rfl) (by kernel_rfl) (fun _ _ _ h => h) (Or.inl ⟨wanted_plain rfl, ?_⟩) (by assumption) ?_
  rotate_left
  ·(intro w hSw; (try dsimp only at hSw); go_simp; try with_reducible rfl)
  intro act_ hact_; simp only [Act.put, List.setIfInBounds_toArray, List.set_cons_zero, List.set_cons_succ] at hact_; subst hact_
  refine take_op2 (i := 25) (v := ?_) rfl (by kernel_rfl) (by kernel_rfl) (by kernel_rfl) (fun _ _ _ h => h) (Or.inl ⟨wanted_plain rfl, ?_⟩) (by assumption) ?_
  rotate_left
  ·(intro w hSw; (try dsimp only at hSw); go_simp; try with_reducible rfl)
  intro act_ hact_; simp only [Act.put, List.setIfInBounds_toArray, List.set_cons_zero, List.set_cons_succ] at hact_; subst hact_
  refine wpAnyH_ready (rs := [26]) (by kernel_rfl) (List.cons_ne_nil _ _) ?_
  refine AllReadyH.cons rfl (fun K hK => ?_) AllReadyH.nil
  go_simp
  refine hK.out _ _ ?_ (fun hHeld => ?_)
  ·exact SK.out _ _ _ Q2.out
  clear hK K
  refine wpAnyH_done (by kernel_rfl) ?_ _
  (try go_wp2_with fail)
  (try simp only [Exit.inBlock, Exit.then])
  first | refine bodyPost_ret (results_none rfl _ _ _) rfl ?_ | refine bodyPost_end (results_none rfl _ _ _) rfl ?_
  exact ⟨rfl, ⟨_, by rw [← HT.out]; exact Q2.out⟩, HB0.out.trans Q3.out, Keep2.ahead (below16 W0 _).drew Q4.out⟩
 refine AllReadyH.cons rfl (fun K hK => ?_) ?_
 ·go_simp
  refine hK.out _ _ ?_ (fun hHeld => ?_)
  ·exact SK.out _ _ _ HA.out
  clear hK K
  refine wpAnyH_ready (rs := [4]) (by kernel_rfl) (List.cons_ne_nil _ _) ?_
  refine AllReadyH.cons rfl (fun K hK => ?_) AllReadyH.nil
  go_simp
  refine hK.out _ _ ?_ (fun hHeld => ?_)
  ·exact SK.out _ _ _ HA.out
  clear hK K
  refine wpAnyH_ready (rs := [23]) (by kernel_rfl) (List.cons_ne_nil _ _) ?_
  refine AllReadyH.cons rfl (fun K hK => ?_) AllReadyH.nil
  refine step_append_lies _ (by rfl) (.tmp 10) (.tmp 28) 33 (by rfl) B 57 i0 _ 4 48 Tryz.underlying33 HI.out HZ0.out HZ1.out HZ2.out rfl (by omega) v N.length (rowC encN N) (by rfl) HA.out.nts ⟨W0.heap.size, 0, none⟩ 1 1 (encN ⟨af, al, E, x.extract 0 k⟩) (by rfl) rfl (news_row18 W0 _ _) (encN_one _) (by omega) (by have := HN.out; unfold maxLen; omega) (by have := HN.out; omega) (by show B ≤ (W0.alloc _).heap.size; rw [World.size_alloc]; exact Nat.le_succ_of_le HS.out.le) (W0.heap.size + 1) (by show (W0.alloc _).heap.size = _; rw [World.size_alloc]) ?_
  intro g6 c6 W6 o6 h6 e6 l6
  obtain ⟨q1, q2, q3, q4⟩ := St.noted HA.out h6 (own_next18 o6)
  have cc2 := (cell_of_row W6 b 18 _ _ (0, 0) q1).trans (show _ = some v from rfl)
  have ff2 := frozen_of_row W6 b 18 _ _ q1
  have a13 : W6.cell? ⟨b, 13, none⟩ = some (.string af) := (cell_of_row W6 b 13 _ _ (0, 0) q1).trans rfl
  have a14 : W6.cell? ⟨b, 14, none⟩ = some (.int .i64 al) := (cell_of_row W6 b 14 _ _ (0, 0) q1).trans rfl
  have Q2 := hid q2
  have Q3 := hid q3
  have Q4 := hid q4
  clear o6 h6 e6 l6 q1 q2 q3 q4
  change K (Act.put _ (some 29) _) _
  simp only [Act.put]
  refine hK.out _ _ ?_ (fun hHeld => ?_)
  ·exact ⟨a13, a14⟩
  clear hK K
  refine take_op2 (i := 24) (v := ?_) rfl (by kernel_rfl) (by kernel_rfl) (by kernel_rfl) (fun _ _ _ h => h) (Or.inl ⟨wanted_plain rfl, ?_⟩) (by assumption) ?_
  rotate_left
  ·(intro w hSw; (try dsimp only at hSw); go_simp; try with_reducible rfl)
  intro act_ hact_; simp only [Act.put, List.setIfInBounds_toArray, List.set_cons_zero, List.set_cons_succ] at hact_; subst hact_
  refine take_op2 (i := 25) (v := ?_) rfl (by kernel_rfl) (by kernel_rfl) (by kernel_rfl) (fun _ _ _ h => h) (Or.inl ⟨wanted_plain rfl, ?_⟩) (by assumption) ?_
  rotate_left
  ·(intro w hSw; (try dsimp only at hSw); go_simp; try with_reducible rfl)
  intro act_ hact_; simp only [Act.put, List.setIfInBounds_toArray, List.set_cons_zero, List.set_cons_succ] at hact_; subst hact_
  refine wpAnyH_ready (rs := [26]) (by kernel_rfl) (List.cons_ne_nil _ _) ?_
  refine AllReadyH.cons rfl (fun K hK => ?_) AllReadyH.nil
  go_simp
  refine hK.out _ _ ?_ (fun hHeld => ?_)
  ·exact SK.out _ _ _ Q2.out
  clear hK K
  refine wpAnyH_done (by kernel_rfl) ?_ _
  (try go_wp2_with fail)
  (try simp only [Exit.inBlock, Exit.then])
  first | refine bodyPost_ret (results_none rfl _ _ _) rfl ?_ | refine bodyPost_end (results_none rfl _ _ _) rfl ?_
  exact ⟨rfl, ⟨_, by rw [← HT.out]; exact Q2.out⟩, HB0.out.trans Q3.out, Keep2.ahead (below16 W0 _).drew Q4.out⟩
 exact AllReadyH.nil
set_option maxRecDepth 100000
open Go.Lib (hid)
open Go.ChangeShapes Go.WideShapes Go.ChangeAt Go.RowKit
set_option linter.unusedVariables false

abbrev listed19 : List (String × DataW Unit) := [("math/bits.deBruijn32tab", Rows.laid_math_bits_deBruijn32tab), ("math/bits.deBruijn64tab", Rows.laid_math_bits_deBruijn64tab), ("internal/strconv.uint64pow10", Rows.laid_internal_strconv_uint64pow10), ("strconv.ErrRange", Rows.laid_strconv_ErrRange), ("strconv.ErrSyntax", Rows.laid_strconv_ErrSyntax), ("vestibule/arch.rows", Rows.laid_vestibule_arch_rows), ("vestibule/names.errnos", Rows.laid_vestibule_names_errnos), ("vestibule/names.families", Rows.laid_vestibule_names_families), ("vestibule/names.spaces", Rows.laid_vestibule_names_spaces), ("vestibule/values.booleans", Rows.laid_vestibule_values_booleans)]
def archL19 : List Value := [.string ⟨#[120, 56, 54, 45, 54, 52]⟩, .int .u32 3221225534, .string ⟨#[120, 56, 54]⟩, .int .u32 1073741827, .string ⟨#[120, 51, 50]⟩, .int .u32 3221225534, .string ⟨#[97, 114, 109]⟩, .int .u32 1073741864, .string ⟨#[97, 114, 109, 54, 52]⟩, .int .u32 3221225655, .string ⟨#[114, 105, 115, 99, 118, 54, 52]⟩, .int .u32 3221225715]
theorem archL19_flat : flatD Tryz.prog 4 147 (Rows.laid_vestibule_arch_rows : DataW Unit) = some archL19 := by kernel_rfl
theorem flat_errs19 : flatD Tryz.prog 4 154 (Rows.laid_vestibule_names_errnos : DataW Unit) = some (cellsT .u32 errnoT) := by kernel_rfl
theorem flat_fams19 : flatD Tryz.prog 4 158 (Rows.laid_vestibule_names_families : DataW Unit) = some (cellsT .u32 famT) := by kernel_rfl
theorem flat_spcs19 : flatD Tryz.prog 4 113 (Rows.laid_vestibule_names_spaces : DataW Unit) = some (cellsT .u64 spcT) := by kernel_rfl
theorem flat_boo19 : flatD Tryz.prog 4 240 (Rows.laid_vestibule_values_booleans : DataW Unit) = some boolC := by kernel_rfl
theorem pow_datum : (Rows.laid_internal_strconv_uint64pow10 : DataW Unit) = Lib.tabData .u64 Lib.pow10Tab := rfl
theorem gPow : Tryz.prog.globalNamed "internal/strconv.uint64pow10" = some 5 := by kernel_rfl
theorem tPow : (Tryz.prog.globals[5]?).map (·.type) = some 252 := by kernel_rfl
theorem pow_of {W : World} {g0 : Nat} {t0 : TypeId} {cs0 : Array Value} {f0 : Nat} {p0 : List MemPlace} (hg0 : Tryz.prog.globalNamed "internal/strconv.uint64pow10" = some g0) (ht0 : (Tryz.prog.globals[g0]?).map (·.type) = some t0) (hv0 : W.var? Tryz.prog "internal/strconv.uint64pow10" = some cs0)
 (hd0 : DataW.trod (fun _ => ()) Tryz.prog W 0 (fun _ => true) false f0 t0 cs0.toList = some (Rows.laid_internal_strconv_uint64pow10, p0)) : Lib.TabIs Tryz.prog W "internal/strconv.uint64pow10" .u64 Lib.pow10Tab := by
 obtain rfl := Option.some.inj (gPow.symm.trans hg0)
 obtain rfl := Option.some.inj (tPow.symm.trans ht0)
 rw [pow_datum] at hd0
 unfold Lib.TabIs
 rw [hv0, ← Lib.cells_of_tab Tryz.underlying252 Tryz.underlying30 (by kernel_rfl) (by kernel_rfl) hd0]
theorem iface_of {enc : TypeId × Value → Unit} {P : Program} {w : World} {base fuel : Nat} {sp : Nat → Bool} {t : TypeId} {cs : List Value} {nm : String} {d : DataW Unit} {p : List MemPlace} {ms : _} (ht : P.underlying t = some (.interface ms))
 (h : DataW.trod enc P w base sp false fuel t cs = some (.iface nm d, p)) : ∃ u v, cs = [.iface u v] := by
 cases fuel with
 | zero => simp [DataW.trod] at h
 | succ fuel =>
  simp only [DataW.trod, ht] at h
  match cs, h with
  | [.iface u v], _ => exact ⟨u, v, rfl⟩
  | [.nilIface], h => simp at h
theorem g_syn : Tryz.prog.globalNamed "strconv.ErrSyntax" = some 9 := by kernel_rfl
theorem t_syn : (Tryz.prog.globals[9]?).map (·.type) = some 189 := by kernel_rfl
theorem syn_of {W : World} {g0 : Nat} {t0 : TypeId} {cs0 : Array Value} {f0 : Nat} {p0 : List MemPlace} (hg0 : Tryz.prog.globalNamed "strconv.ErrSyntax" = some g0) (ht0 : (Tryz.prog.globals[g0]?).map (·.type) = some t0) (hv0 : W.var? Tryz.prog "strconv.ErrSyntax" = some cs0)
 (hd0 : DataW.trod (fun _ => ()) Tryz.prog W 0 (fun _ => true) false f0 t0 cs0.toList = some (Rows.laid_strconv_ErrSyntax, p0)) : ∃ t p, W.cell? ⟨9, 0, none⟩ = some (.iface t p) := by
 obtain rfl := Option.some.inj (g_syn.symm.trans hg0)
 obtain rfl := Option.some.inj (t_syn.symm.trans ht0)
 obtain ⟨u, v, e⟩ := iface_of Tryz.underlying189 hd0
 refine ⟨u, v, ?_⟩
 rw [World.var?_cell g_syn hv0 0, ← Array.getElem?_toList, e]; rfl
theorem g_rng : Tryz.prog.globalNamed "strconv.ErrRange" = some 10 := by kernel_rfl
theorem t_rng : (Tryz.prog.globals[10]?).map (·.type) = some 189 := by kernel_rfl
theorem rng_of {W : World} {g0 : Nat} {t0 : TypeId} {cs0 : Array Value} {f0 : Nat} {p0 : List MemPlace} (hg0 : Tryz.prog.globalNamed "strconv.ErrRange" = some g0) (ht0 : (Tryz.prog.globals[g0]?).map (·.type) = some t0) (hv0 : W.var? Tryz.prog "strconv.ErrRange" = some cs0)
 (hd0 : DataW.trod (fun _ => ()) Tryz.prog W 0 (fun _ => true) false f0 t0 cs0.toList = some (Rows.laid_strconv_ErrRange, p0)) : ∃ t p, W.cell? ⟨10, 0, none⟩ = some (.iface t p) := by
 obtain rfl := Option.some.inj (g_rng.symm.trans hg0)
 obtain rfl := Option.some.inj (t_rng.symm.trans ht0)
 obtain ⟨u, v, e⟩ := iface_of Tryz.underlying189 hd0
 refine ⟨u, v, ?_⟩
 rw [World.var?_cell g_rng hv0 0, ← Array.getElem?_toList, e]; rfl
theorem of_laid19 {W : World} (h : laidMetH Tryz.prog listed19 W) : G18 W := by
 rw [MakeChecks.laidMetH_plain _ _ _ (by kernel_rfl)] at h
 obtain ⟨ps, ⟨g0, t0, cs0, f0, p0, q0, hg0, ht0, hv0, hd0, ⟨g1, t1, cs1, f1, p1, q1, hg1, ht1, hv1, hd1, ⟨g2, t2, cs2, f2, p2, q2, hg2, ht2, hv2, hd2, ⟨g3, t3, cs3, f3, p3, q3, hg3, ht3, hv3, hd3, ⟨g4, t4, cs4, f4, p4, q4, hg4, ht4, hv4, hd4, ⟨g5, t5, cs5, f5, p5, q5, hg5, ht5, hv5, hd5, ⟨g6, t6, cs6, f6, p6, q6, hg6, ht6, hv6, hd6, ⟨g7, t7, cs7, f7, p7, q7, hg7, ht7, hv7, hd7, ⟨g8, t8, cs8, f8, p8, q8, hg8, ht8, hv8, hd8, ⟨g9, t9, cs9, f9, p9, q9, hg9, ht9, hv9, hd9, _, _⟩, _⟩, _⟩, _⟩, _⟩, _⟩, _⟩, _⟩, _⟩, _⟩, _, _⟩ := h
 have H := laidAt_of (g := 1) (t := 147) (by kernel_rfl) (by kernel_rfl) hg5 ht5 hv5 hd5 4 archL19_flat
 refine { ar := ?_, nm := { errs := laidAt_of (g := 2) (t := 154) (by kernel_rfl) (by kernel_rfl) hg6 ht6 hv6 hd6 4 flat_errs19, fams := laidAt_of (g := 3) (t := 158) (by kernel_rfl) (by kernel_rfl) hg7 ht7 hv7 hd7 4 flat_fams19, spcs := laidAt_of (g := 0) (t := 113) (by kernel_rfl) (by kernel_rfl) hg8 ht8 hv8 hd8 4 flat_spcs19, pow := pow_of hg2 ht2 hv2 hd2, rng := rng_of hg3 ht3 hv3 hd3, syn := syn_of hg4 ht4 hv4 hd4 }, boo := laidAt_of (g := 4) (t := 240) (by kernel_rfl) (by kernel_rfl) hg9 ht9 hv9 hd9 4 flat_boo19 }
 intro k hk
 match k, hk with
 | 0, _ => exact ⟨H 0 _ rfl, H 1 _ rfl⟩
 | 1, _ => exact ⟨H 2 _ rfl, H 3 _ rfl⟩
 | 2, _ => exact ⟨H 4 _ rfl, H 5 _ rfl⟩
 | 3, _ => exact ⟨H 6 _ rfl, H 7 _ rfl⟩
 | 4, _ => exact ⟨H 8 _ rfl, H 9 _ rfl⟩
 | 5, _ => exact ⟨H 10 _ rfl, H 11 _ rfl⟩
 | k + 6, hk => omega
theorem door_met19 (os : Os) (args : Array Value) : laidMetH Tryz.prog listed19 ((World.doorLaid Tryz.prog 4000 os).forCall (fun _ _ => 0) ⟨#[], args, []⟩).memory :=
 laidMetH_of_parts3 (fuel := 8) (laidMet_of_run' 8 (by kernel_rfl) (by kernel_rfl)) (by kernel_rfl) (by kernel_rfl)
end Go.Proofs.YtlenjfodjkhpmaaGreatDoor
