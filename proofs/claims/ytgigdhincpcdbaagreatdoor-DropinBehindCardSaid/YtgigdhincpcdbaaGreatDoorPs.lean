/- The chapter's rows, over what dropin's calls have to return. Condition: what they have to return. -/
import Derived.Test.YtgigdhincpcdbaaGreatDoorPq
import Derived.Test.YtgigdhincpcdbaaGreatDoorPk
import Derived.Deep.RegionHeld3
namespace Go.Proofs.YtgigdhincpcdbaaGreatDoor
open Go.RowKit
set_option linter.unusedVariables false
set_option linter.unusedSimpArgs false
attribute [local go_sem ↓] Go.wp_at_zero Go.wp_at_succ

def mk14 (x : ByteArray) (d : Int) (b : UInt8) (p : Option Addr) (c : Nat) : Fle := ⟨x, d, p, 8, c, fileL b⟩
theorem fs_lit14 (W : World) (L : List Fle) (hL : ∀ f ∈ L, FleAt W.heap.size W f) (hn : L.length ≤ 1000) : FsAt (W.alloc (.cells (rowC encF L).toArray 24)) (some ⟨W.heap.size, 0, none⟩) L.length L.length L :=
  ⟨rfl, Nat.le_refl _, by unfold maxLen; omega, fun h => (by cases h), rows_lit encF_len W L 24, fun f hf => (hL f hf).on (ball W _)⟩
theorem order_k {G : World → Prop} (HC : DropinC G) (m m0 : Fle) (D D0 : List Fle) (X : List (ByteArray × Int × List UInt8)) (k : Nat) (E : Int) (hm0 : m.fil = m0.fil) (hD : D.map Fle.fil = D0.map Fle.fil) (hE : ordE D0 = E ∧ (ordL m0 D0).map Fle.fil = X) (hk : X.length = k)
    (W : World) (g : G W) (hm : FleAt W.heap.size W m) (a : Option Addr) (n cap : Nat) (h : FsAt W a n cap D) (hb : ∀ f ∈ m :: D, f.len ≤ 1000000 ∧ f.name.size ≤ 1000000) (hn : n ≤ 1000) :
    Calls Tryz.prog 10 #[.agg #[.string m.name, .int .i64 m.dir, .slice m.ptr m.len m.cap], .slice a n cap] W fun e w' => ∃ q c L, e = .returned (.tuple #[.slice q k c, .int .i64 E]) ∧ FsAt w' q k c L ∧ L.map Fle.fil = X ∧ Below W.heap.size W w' :=
  (HC.order m D a n cap W g hm h hb hn).mono fun e w' ⟨v, L, h1, h2, h3, h4⟩ => by
    obtain ⟨q, c, rfl, fs⟩ := h2.fs
    have hl : L.map Fle.fil = X := h3.trans ((ordL_fil hm0 hD).trans hE.2)
    have hk2 : L.length = k := by rw [← hk, ← hl, List.length_map]
    rw [hk2] at h1 fs
    rw [ordE_fil hD, hE.1] at h1
    exact ⟨q, c, L, h1, fs, hl, h4⟩
theorem mrgN_m {m m0 : Fle} (h : m.fil = m0.fil) (D : List Fle) : mrgN m D = mrgN m0 D := by
  unfold mrgN
  rw [flat_fil filN (ordL_fil h (rfl : D.map Fle.fil = D.map Fle.fil)), (fil_parts h).1]
theorem mrgA_m {m m0 : Fle} (h : m.fil = m0.fil) (D : List Fle) : mrgA m D = mrgA m0 D := by
  unfold mrgA
  rw [mrgN_m h, flat_fil filA (ordL_fil h (rfl : D.map Fle.fil = D.map Fle.fil))]
theorem merge_k {G : World → Prop} (HC : DropinC G) (m m0 : Fle) (D D0 : List Fle) (A : List Asn) (k : Nat) (hm0 : m.fil = m0.fil) (hD : D.map Fle.fil = D0.map Fle.fil) (hE : mrgA m0 D0 = A ∧ mrgN m0 D0 = []) (hk : A.length = k)
    (W : World) (g : G W) (hm : FleAt W.heap.size W m) (a : Option Addr) (n cap : Nat) (h : FsAt W a n cap D) (hb : ∀ f ∈ m :: D, f.len ≤ 1000000 ∧ f.name.size ≤ 1000000) (hn : n ≤ 1000) :
    Calls Tryz.prog 16 #[.agg #[.string m.name, .int .i64 m.dir, .slice m.ptr m.len m.cap], .slice a n cap] W fun e w' => ∃ q c q2 c2, e = .returned (.tuple #[.slice q k c, .slice q2 0 c2]) ∧ RowsAt 5 encA w' (.slice q k c) A ∧ Below W.heap.size W w' :=
  (HC.merge m D a n cap W g hm h hb hn).mono fun e w' ⟨va, vn, h1, h2, h3, h4⟩ => by
    rw [mrgA_fil hD, mrgA_m hm0, hE.1] at h2
    rw [mrgN_fil hD, mrgN_m hm0, hE.2] at h3
    obtain ⟨q, c, rfl, r⟩ := h2
    obtain ⟨q2, c2, rfl, _⟩ := h3
    rw [hk] at h1
    exact ⟨q, c, q2, c2, h1, ⟨q, c, by rw [hk], r⟩, h4⟩
theorem rows_2 : ordE [mk14 ⟨#[98, 46, 99, 111, 110, 102]⟩ 0 49 none 0, mk14 ⟨#[97, 46, 99, 111, 110, 102]⟩ 1 50 none 0, mk14 ⟨#[97, 46, 99, 111, 110, 102]⟩ 0 51 none 0, mk14 ⟨#[98, 46, 99, 111, 110, 102]⟩ 0 52 none 0] = 0 ∧ (ordL (mk14 ⟨#[109]⟩ 0 48 none 0) [mk14 ⟨#[98, 46, 99, 111, 110, 102]⟩ 0 49 none 0, mk14 ⟨#[97, 46, 99, 111, 110, 102]⟩ 1 50 none 0, mk14 ⟨#[97, 46, 99, 111, 110, 102]⟩ 0 51 none 0, mk14 ⟨#[98, 46, 99, 111, 110, 102]⟩ 0 52 none 0]).map Fle.fil = [(⟨#[109]⟩, 0, fileL 48), (⟨#[97, 46, 99, 111, 110, 102]⟩, 0, fileL 51), (⟨#[98, 46, 99, 111, 110, 102]⟩, 0, fileL 49)] := by decide +kernel
theorem rows_3 : ordE (List.replicate 17 f0) = 4 ∧ (ordL (mk14 ⟨#[109]⟩ 0 48 none 0) (List.replicate 17 f0)).map Fle.fil = [] := by decide +kernel
theorem rows_4 : ordE [mk14 ⟨#[97, 47, 98, 46, 99, 111, 110, 102]⟩ 0 49 none 0] = 140 ∧ (ordL (mk14 ⟨#[109]⟩ 0 48 none 0) [mk14 ⟨#[97, 47, 98, 46, 99, 111, 110, 102]⟩ 0 49 none 0]).map Fle.fil = [] := by decide +kernel
theorem rows_5 : mrgA (mk14 ⟨#[109]⟩ 0 48 none 0) [mk14 ⟨#[98, 46, 99, 111, 110, 102]⟩ 0 49 none 0, mk14 ⟨#[97, 46, 99, 111, 110, 102]⟩ 0 51 none 0] = [⟨⟨#[109]⟩, 2, ⟨#[83]⟩, ⟨#[75]⟩, ⟨#[48]⟩⟩, ⟨⟨#[97, 46, 99, 111, 110, 102]⟩, 2, ⟨#[83]⟩, ⟨#[75]⟩, ⟨#[51]⟩⟩, ⟨⟨#[98, 46, 99, 111, 110, 102]⟩, 2, ⟨#[83]⟩, ⟨#[75]⟩, ⟨#[49]⟩⟩] ∧ mrgN (mk14 ⟨#[109]⟩ 0 48 none 0) [mk14 ⟨#[98, 46, 99, 111, 110, 102]⟩ 0 49 none 0, mk14 ⟨#[97, 46, 99, 111, 110, 102]⟩ 0 51 none 0] = [] := ⟨by kernel_rfl, by kernel_rfl⟩
theorem fs_zero (W : World) : FsAt (W.alloc (.cells (rowC encF (List.replicate 17 f0)).toArray 24)) (some ⟨W.heap.size, 0, none⟩) 17 17 (List.replicate 17 f0) :=
  fs_lit14 W (List.replicate 17 f0) (fun f hf => by rw [List.eq_of_mem_replicate hf]; exact ⟨by unfold maxLen; decide, rfl, Nat.le_refl _, Nat.zero_le _, fun _ => rfl, fun h => absurd h (Nat.lt_irrefl _)⟩) (by decide)
end Go.Proofs.YtgigdhincpcdbaaGreatDoor
