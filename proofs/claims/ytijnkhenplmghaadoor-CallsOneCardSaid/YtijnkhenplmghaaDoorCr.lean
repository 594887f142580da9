/- The landed calls.Names; and, of lists alone, that what a sort makes of an architecture's calls is the chapter's list. -/
import Derived.Test.YtijnkhenplmghaaDoorCq
import Derived.Sort.Statements
import Derived.Shelf.SlSortCmp.Insertion
import Derived.Lib.Small
namespace Go.Proofs.YtijnkhenplmghaaDoor
open Go.RowKit
set_option linter.unusedVariables false
attribute [local go_sem ↓] Go.wp_at_zero Go.wp_at_succ

theorem news_s2 (w : World) (x : ByteArray) (t t' : TypeId) (c : Array Value) : ∀ j u, (sV [x])[j]? = some u → ((w.alloc (.cells c t')).alloc (.cells #[.string x] t)).cell? ((⟨w.heap.size + 1, 0, none⟩ : Addr).add j) = some u := by
  have h := news_s (w.alloc (.cells c t')) x t
  rwa [World.size_alloc] at h
set_option maxRecDepth 100000 in
set_option maxHeartbeats 8000000 in
theorem names9 (w : World) : Calls Tryd.prog 9 #[] w fun e w' => ∃ q c, e = .returned (.slice q 40 c) ∧ w'.ownsRow w.heap.size 9 1 (.slice q 40 c) 40 (sV callN) ∧ Below w.heap.size w w' := by
  obtain ⟨i0, hi', hz0, hz1, hz2⟩ := str_info
  have HI := Lib.hid hi'
  have HZ0 := Lib.hid hz0
  have HZ1 := Lib.hid hz1
  have HZ2 := Lib.hid hz2
  have HT := Lib.hid (fun W => table9 W)
  clear hi' hz0 hz1 hz2
  go_enter Tryd.func9, Tryd.ntmps9
  go_wp2_with (go_at_call 21; ((with_reducible refine (HT.out _).mono ?_); rintro e W ⟨rfl, b1⟩); have B1 := Lib.hid b1; clear b1)
  clear HT
  go_loopw [1, 5] (fun v1 v5 wr => ∃ k : Nat, k ≤ 40 ∧ v5 = .int .i64 k ∧ Hid (wr.ownsRow W.heap.size 9 1 v1 k (sV (namesTo k))) ∧ Hid (Below W.heap.size W wr)) (fun _ v5 _ => 40 - (intOf v5).toNat)
  case atStart => exact ⟨0, by omega, rfl, Lib.hid (World.ownsRow_nil _ _ _ _), Lib.hid (Below.refl _ _)⟩
  case round =>
    obtain ⟨k, hk, rfl, PO, PB⟩ := hrel
    obtain ⟨V, rfl⟩ : ∃ wo : World, wo = wr := ⟨_, rfl⟩
    by_cases hlt : k < 40
    · have k1 : (k : Int) < 40 := by omega
      have k0 : (0 : Int) ≤ k := by omega
      have HN := Lib.hid (show namesTo (k + 1) = namesTo k ++ [nmT k] from rfl)
      have HR := Lib.hid (show (rL k).toArray = #[.string (nmT k), .int .i16 (mN k 0), .int .i16 (mN k 1), .int .i16 (mN k 2), .int .i16 (mN k 3), .int .i16 (mN k 4), .int .i16 (mN k 5)] from by rw [rL_is k hlt])
      generalize nmT k = x at HR HN
      generalize mN k 0 = n0 at HR
      generalize mN k 1 = n1 at HR
      generalize mN k 2 = n2 at HR
      generalize mN k 3 = n3 at HR
      generalize mN k 4 = n4 at HR
      generalize mN k 5 = n5 at HR
      have hsz := PB.out.size
      go_wp2_with (first
        | ((with_reducible show wpList _ _ _ (⟨some 7, _, _, _, _, _⟩ :: _) _ _)
           refine wpList_row9 rfl (.tmp 4) (.tmp 5) rfl k hlt rfl rfl ?_
           rw [HR.out])
        | (at_builtin
           refine wpList_append_own _ rfl (.tmp 8) (.tmp 11) 28 rfl W.heap.size 9 i0 _ 1 16 Tryd.underlying28 HI.out HZ0.out HZ1.out HZ2.out rfl (by omega) _ k (sV (namesTo k)) rfl ((PO.out.alloc _).alloc _) ⟨V.heap.size + 1, 0, none⟩ 1 1 (sV [x]) rfl rfl (news_s2 V x _ _ _) (sV_one _) (by unfold maxLen; omega) (by omega) (by rw [World.size_alloc, World.size_alloc]; omega) ?_
           intro v5 w5 o5 hg5 _
           rw [← sV_app] at o5
           have O5 := Lib.hid o5
           have B5 := Lib.hid (((PB.out.alloc hsz _).alloc (by rw [World.size_alloc]; omega) _).grown hg5 (by rw [World.size_alloc, World.size_alloc]; omega) (fun g hg => (PO.out.lt g hg).1))
           clear o5 hg5))
      go_roundw
      case rel => exact ⟨k + 1, by omega, by go_num, Lib.hid (by rw [HN.out]; exact O5.out), B5⟩
      case measure => simp [intOf]; omega
    · obtain rfl : k = 40 := by omega
      have ho := PO.out
      rw [names_all] at ho
      obtain ⟨q, c, hv⟩ := ownForm9 ho
      subst hv
      go_wp2
      go_ret
      exact ⟨q, c, rfl, ownBase9 ho B1.out.size, B1.out.trans (PB.out.mono B1.out.size)⟩
/-- The calls of an architecture among the first so many, as the table has them. -/
def rawT (a : Int) : Nat → List En
  | 0 => []
  | k + 1 => if okT a k = true then rawT a k ++ [(nmT k, onN a k)] else rawT a k
theorem rawT_length (a : Int) : ∀ k, (rawT a k).length ≤ k
  | 0 => Nat.le_refl _
  | k + 1 => by
    have := rawT_length a k
    unfold rawT
    split
    · rw [List.length_append, List.length_singleton]; omega
    · omega
theorem raw_perm (a : Int) : ∀ k, k ≤ 40 → List.Perm (allT a k) (rawT a k)
  | 0, _ => List.Perm.refl _
  | k + 1, h => by
    have ih := raw_perm a k (by omega)
    unfold allT rawT
    rw [numR_at (a := a) (j := k) (by omega) rfl]
    by_cases g : okT a k = true
    · rw [if_pos g, if_pos g, if_pos rfl]
      exact (bub_perm _ _ (by rw [List.length_append, List.length_singleton]; omega)).trans (ih.append_right _)
    · rw [if_neg g, if_neg g, if_neg (by decide)]
      exact ih
theorem rawT_out (a : Int) (h : ¬ (0 ≤ a ∧ a < 6)) : ∀ k, rawT a k = []
  | 0 => rfl
  | k + 1 => by unfold rawT; rw [okT_out a k h, if_neg (by decide), rawT_out a h k]
theorem all_lt : ∀ i : Nat, i < 6 → (allT (i : Int) 40).Pairwise (fun x y => x.2 < y.2) := by decide +kernel
theorem key_inj : ∀ {l : List En}, l.Pairwise (fun x y => x.2 < y.2) → ∀ x ∈ l, ∀ y ∈ l, x.2 = y.2 → x = y
  | [], _, x, hx, _, _, _ => absurd hx List.not_mem_nil
  | a :: t, h, x, hx, y, hy, e => by
    obtain ⟨h1, h2⟩ := List.pairwise_cons.1 h
    rcases List.mem_cons.1 hx with g1 | g1
    · rcases List.mem_cons.1 hy with g2 | g2
      · rw [g1, g2]
      · have := h1 y g2; rw [← g1] at this; omega
    · rcases List.mem_cons.1 hy with g2 | g2
      · have := h1 x g1; rw [← g2] at this; omega
      · exact key_inj h2 x g1 y g2 e
def cf9 (x y : En) : Int := Lib.compareInt x.2 y.2
theorem lt9 (x y : En) : ltOf cf9 x y = decide (x.2 < y.2) := by
  unfold ltOf cf9 Lib.compareInt
  by_cases h1 : x.2 < y.2
  · simp [h1]
  · by_cases h2 : y.2 < x.2 <;> simp [h1, h2]
theorem swo9 : Sort.SWO (ltOf cf9) where
  irrefl x := by rw [lt9]; simp
  trans x y z h1 h2 := by rw [lt9] at *; simp at *; omega
  ntrans x y z h1 h2 := by rw [lt9] at *; simp at *; omega
theorem sorted_is {a : Int} {d d' : Array En} (ha : 0 ≤ a ∧ a < 6) (hd : d.toList = rawT a 40) (hp : Sort.PermIn 0 d.size d d') (hs : Sort.SortedIn (ltOf cf9) 0 d.size d') : d'.toList = allT a 40 := by
  obtain ⟨i, rfl⟩ := Int.eq_ofNat_of_zero_le ha.1
  have hl := all_lt i (by omega)
  obtain ⟨p1, _, p3⟩ := hp
  have q : d'.toList.Perm d.toList := by
    have e1 : d'.extract 0 d.size = d' := by rw [← p1]; simp
    have e2 : d.extract 0 d.size = d := by simp
    rwa [e1, e2] at p3
  rw [hd] at q
  have r : d'.toList.Perm (allT (i : Int) 40) := q.trans (raw_perm _ 40 (Nat.le_refl _)).symm
  refine List.Perm.eq_of_pairwise (le := fun x y => x.2 ≤ y.2) (fun x y hx hy h1 h2 => ?_) ?_ ?_ r
  · exact key_inj hl x (r.subset hx) y hy (by omega)
  · rw [List.pairwise_iff_getElem]
    intro m n hm hn hmn
    have := hs m n (Nat.zero_le _) hmn (by rw [← p1]; simpa using hn)
    rw [lt9] at this
    have := of_decide_eq_false this
    rw [getElem!_pos d' m (by simpa using hm), getElem!_pos d' n (by simpa using hn)] at this
    simp only [Array.getElem_toList]
    omega
  · exact hl.imp (fun h => by omega)
end Go.Proofs.YtijnkhenplmghaaDoor
