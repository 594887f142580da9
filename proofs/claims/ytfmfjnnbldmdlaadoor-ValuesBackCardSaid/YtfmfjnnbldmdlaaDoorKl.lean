/- The statement ValuesBack holds, over what the calls have to return: an entry that is read has a text that is read as it. -/
import Derived.Test.YtfmfjnnbldmdlaaDoorRows
import Derived.Test.YtfmfjnnbldmdlaaDoorCards
import Derived.Test.YtfmfjnnbldmdlaaDoorTie
import Derived.SevenTiedAt
import Derived.Test.YtfmfjnnbldmdlaaDoorFr
import Derived.Test.YtfmfjnnbldmdlaaDoorKy
import Derived.Test.YtfmfjnnbldmdlaaDoorKh
import Derived.BigQuiet
import Derived.Deep.QuietTactic
namespace Go.Proofs.YtfmfjnnbldmdlaaDoor.valuesBack
open Go.ChangeShapes Go.WideShapes Go.ChangeAt Go.RowKit
open Go.ChangeMaps (open_string shut_string)
set_option linter.unusedVariables false
attribute [local go_sem ↓] Go.wp_at_zero Go.wp_at_succ
theorem three {W W' : World} {b : Nat} {n : ByteArray} {x : Int} {h : Bool} (hc : W.cell? ⟨b, 0, none⟩ = some (.string n) ∧ W.cell? ⟨b, 1, none⟩ = some (.int .u32 x) ∧ W.cell? ⟨b, 2, none⟩ = some (.bool h)) (hb : Below W.heap.size W W') : W'.cell? ⟨b, 0, none⟩ = some (.string n) ∧ W'.cell? ⟨b, 1, none⟩ = some (.int .u32 x) ∧ W'.cell? ⟨b, 2, none⟩ = some (.bool h) :=
  ⟨(hb.cell (World.block_lt_of_cell? W _ hc.1)).trans hc.1, (hb.cell (World.block_lt_of_cell? W _ hc.2.1)).trans hc.2.1, (hb.cell (World.block_lt_of_cell? W _ hc.2.2)).trans hc.2.2⟩
theorem fresh {w : World} {n : ByteArray} {x : Int} {h : Bool} {t : TypeId} : (w.alloc (.cells #[.string n, .int .u32 x, .bool h] t)).cell? ⟨w.heap.size, 0, none⟩ = some (.string n) ∧ (w.alloc (.cells #[.string n, .int .u32 x, .bool h] t)).cell? ⟨w.heap.size, 1, none⟩ = some (.int .u32 x) ∧ (w.alloc (.cells #[.string n, .int .u32 x, .bool h] t)).cell? ⟨w.heap.size, 2, none⟩ = some (.bool h) := by
  refine ⟨?_, ?_, ?_⟩ <;> · rw [cell_of_row _ _ _ _ _ (0, 0) (heap_alloc_new w _)]; rfl
theorem text_size (e : Ent) (h : e.act < 4294967296) : (textR e).size ≤ e.nm.size + 25 := by
  have := errnoName_size (e.act % 65536)
  unfold textR
  split
  · omega
  · split
    · rw [ByteArray.size_append]; show e.nm.size + 5 ≤ _; omega
    · split
      · rw [ByteArray.size_append, ByteArray.size_append]; show e.nm.size + 1 + _ ≤ _; omega
      · rw [ByteArray.size_append]; show e.nm.size + 1 ≤ _; omega
theorem size_zero15 {a : ByteArray} (h : a.size = 0) : a = ⟨#[]⟩ := by
  have : a.data.toList = [] := List.length_eq_zero_iff.1 (by simpa using h)
  rw [← bs_self a, this]; rfl
theorem full15 {a : ByteArray} (h : ¬ a.size = 0) : a.toList.isEmpty = false := by
  rw [ByteArray.toList_eq]
  cases hc : a.data.toList with
  | nil => exact absurd (by have := congrArg List.length hc; simpa using this) h
  | cons => rfl
theorem ne15 {a : ByteArray} (h : ¬ a.size = 0) : a.data.toList ≠ [] := fun e => h (by have := congrArg List.length e; simpa using this)
theorem no_colon15 {a : ByteArray} (h : ∀ i (h : i < a.size), a[i]'h ≠ 58) : ∀ c ∈ a.data.toList, c ≠ 58 := fun c hc => by
  obtain ⟨i, hi, rfl⟩ := List.mem_iff_getElem.1 hc
  exact h i (by simpa using hi)
theorem rd_colon (r : List UInt8) : rdL (58 :: r) = (e0, 161) := rd_0 rfl
theorem back_empty {e : Ent} (h : e.nm = ⟨#[]⟩) : rdE (textR e) = (e0, 161) := by
  have key : ∀ r : ByteArray, rdE (bs (58 :: r.data.toList)) = (e0, 161) := fun r => rd_colon _
  have pre : ∀ (p : ByteArray) (l : List UInt8), p = bs (58 :: l) → rdE (e.nm ++ p) = (e0, 161) := fun p l hp => by
    rw [h, hp, show (⟨#[]⟩ : ByteArray) = bs [] from rfl, bs_app]
    exact rd_colon _
  unfold textR
  split
  · rw [h]; exact rd_0 rfl
  · split
    · exact pre _ [107, 105, 108, 108] rfl
    · split
      · rw [ByteArray.append_assoc]
        refine pre _ (errnoNameR (e.act % 65536)).data.toList ?_
        conv => lhs; rw [← bs_self (errnoNameR (e.act % 65536))]
        rw [show (⟨#[58]⟩ : ByteArray) = bs [58] from rfl, bs_app]; rfl
      · exact pre _ [] rfl
theorem back_plain {a : ByteArray} (h : ∀ c ∈ a.data.toList, c ≠ 58) (h0 : ¬ a.size = 0) : rdE (textR ⟨a, 0, false⟩) = (⟨a, 0, false⟩, 0) := by
  have := read_plain h (ne15 h0)
  rw [bs_self] at this
  exact this
theorem back_kill {a : ByteArray} (h : ∀ c ∈ a.data.toList, c ≠ 58) (h0 : ¬ a.size = 0) : rdE (textR ⟨a, 2147483648, true⟩) = (⟨a, 2147483648, true⟩, 0) := by
  have h1 := read_kill h (ne15 h0)
  have h2 := text_kill a.data.toList
  rw [bs_self] at h1 h2
  rw [h2]; unfold rdE; rw [bs_list]; exact h1
theorem back_errno {a : ByteArray} (h : ∀ c ∈ a.data.toList, c ≠ 58) (h0 : ¬ a.size = 0) {n : Nat} (hn : n < 4096) : rdE (textR ⟨a, 327680 + n, true⟩) = (⟨a, 327680 + n, true⟩, 0) := by
  have h1 := read_errno h (ne15 h0) hn
  have h2 := text_errno a.data.toList hn
  rw [bs_self] at h1 h2
  rw [h2]; unfold rdE; rw [bs_list]; exact h1
theorem read_text {s : ByteArray} (h : (rdE s).2 = 0) : rdE (textR (rdE s).1) = rdE s := (read_back h).1
theorem or15 {n : Nat} (h : n < 4096) : 327680 ||| n = 327680 + n := by
  have := Nat.shiftLeft_add_eq_or_of_lt (a := 5) (b := n) (i := 16) (by omega)
  exact this.symm
set_option maxRecDepth 100000 in
set_option maxHeartbeats 32000000 in
theorem walk {G : World → Prop} (HC : ValuesC G) (HN : NameC15 G) (a0 : ByteArray) (a1 : ByteArray) (a2 : Int) (a3 : Bool) (a4 : Bool) (w : World) (hG : G w) (w0 : a0.size ≤ maxLen) (w1 : a1.size ≤ maxLen) (w2 : (Lit.int .u32 a2).wf = true) (w3 : True) (w4 : True) :
    Calls Tryd.prog 5 #[.string a0, .string a1, .int .u32 a2, .bool a3, .bool a4] w fun e w' => e = .returned (.bool true) ∧ Below w.heap.size w w' := by
  have HON := Lib.hid (fun (w w' : World) => HC.on (w := w) (w' := w'))
  have HG := Lib.hid hG
  have HA := Lib.hid (fun (W : World) (g : G W) => awake15_any HC W g)
  by_cases hlong : (200 : Int) < a0.size
  · clear HC HN hG w0 w1 w2
    go_enter Tryd.func5, Tryd.ntmps5
    go_wp2_with (go_at_call 13; ((with_reducible refine (HA.out _ HG.out).mono ?_); rintro e v7 ⟨rfl, b7⟩))
    go_ret
    exact ⟨rfl, b7⟩
  have hs : (a0.size : Int) ≤ 200 := by omega
  by_cases hln : (200 : Int) < a1.size
  · clear HC HN hG w0 w1 w2 hlong
    go_enter Tryd.func5, Tryd.ntmps5
    go_wp2_with (go_at_call 13; ((with_reducible refine (HA.out _ HG.out).mono ?_); rintro e v7 ⟨rfl, b7⟩))
    go_ret
    exact ⟨rfl, b7⟩
  have hsn : (a1.size : Int) ≤ 200 := by omega
  have HC0 := Lib.hid HC
  have bd := bounds_u32 w2
  obtain ⟨er, herq⟩ : ∃ er : Nat, a2 % 4096 = (er : Int) := ⟨(a2 % 4096).toNat, by omega⟩
  have her4 : er < 4096 := by omega
  have a20 : 0 ≤ a2 := by omega
  have a21 : a2 < 4294967296 := by omega
  have htm : a2.tmod 4096 = (er : Int) := by rw [Int.tmod_eq_emod_of_nonneg (by omega)]; exact herq
  have hmw : (er : Int) % 4294967296 = er := by omega
  have hmw2 : IntKind.u32.wrap (er : Int) = er := by rw [IntKind.wrap_u32]; omega
  obtain ⟨x, hx⟩ : ∃ x, x = ((327680 + er : Nat) : Int) := ⟨_, rfl⟩
  have hor : bits .or .u32 327680 (er : Int) = x := by rw [hx, ← or15 her4]; exact u32_or_nat 327680 er (by omega) (by omega)
  have HE := Lib.hid (fun (W : World) (g : G W) => HN er W g (by omega))
  have hks := errnoName_size er
  obtain ⟨ky, hky0⟩ : ∃ k, k = errnoNameR er := ⟨_, rfl⟩
  have hky : errnoNameR er = ky := hky0.symm
  rw [hky] at HE hks
  clear hky0
  have her := her4
  have HR := Lib.hid (fun (W : World) (g : G W) => HC.read a0 W g (by omega))
  have HRT := Lib.hid (fun (h : (rdE a0).2 = 0) => read_text h)
  have hen := read_nm a0
  have hea := read_act a0
  obtain ⟨E, hE⟩ : ∃ e, e = (rdE a0).1 := ⟨_, rfl⟩
  obtain ⟨f, hf⟩ : ∃ f, f = (rdE a0).2 := ⟨_, rfl⟩
  have hpair : rdE a0 = (E, f) := by rw [hE, hf]
  rw [← hE, ← hf] at HR
  rw [← hE, ← hf, hpair] at HRT
  rw [← hE] at hen hea
  have hts := text_size E hea
  have HT1 := Lib.hid (fun (W : World) (g : G W) => HC.text E W g (by omega) hea)
  have HR1 := Lib.hid (fun (W : World) (g : G W) => HC.read (textR E) W g (by omega))
  have HC := HC0
  clear HC0 hG w0 w1 w2 bd hlong hln hE hf hpair
  by_cases h0 : f = 0
  · subst h0
    rw [HRT.out rfl] at HR1
    obtain ⟨tx, htx⟩ : ∃ t, t = textR E := ⟨_, rfl⟩
    rw [← htx] at HT1 HR1
    obtain ⟨n2, act2, h2⟩ := E
    unfold entV at HR HR1 HT1
    simp only at HR HR1 HT1
    obtain ⟨x2, hx2⟩ : ∃ x, x = ((act2 : Nat) : Int) := ⟨_, rfl⟩
    rw [← hx2] at HR HR1 HT1
    have t1 : (n2.toList == n2.toList) = true := by simp
    have t2 : (x2 == x2) = true := by simp
    have t3 : (h2 == h2) = true := by simp
    clear HRT hen hea hts htx hx2 HN
    go_enter Tryd.func5, Tryd.ntmps5
    go_wp2_with (first
      | (go_at_call 17
         with_reducible refine (HT1.out _ (HON.out _ _ HG.out (B1.out.alloc B1.out.size _))).mono ?_
         rintro e v2 ⟨rfl, b2⟩
         have B2 := Lib.hid (thn (B1.out.alloc B1.out.size _) b2)
         have S2 := Lib.hid (three (fresh (w := v1) (n := n2) (x := x2) (h := h2) (t := 36)) b2)
         clear b2)
      | (go_at_call 14
         first
           | (with_reducible refine (HR.out _ HG.out).mono ?_
              rintro e v1 ⟨rfl, b1⟩
              have B1 := Lib.hid b1
              clear b1)
           | (with_reducible refine (HR1.out _ (HON.out _ _ HG.out B2.out)).mono ?_
              rintro e v3 ⟨rfl, b3⟩
              have B3 := Lib.hid (thn B2.out b3)
              have S3 := Lib.hid (three (three S2.out b3) (show Below v3.heap.size v3 (v3.alloc (.cells #[.string n2, .int .u32 x2, .bool h2] 36)) from (Below.refl _ _).alloc (Nat.le_refl _) _))
              have s0 := S3.out.1
              have s1 := S3.out.2.1
              have s2 := S3.out.2.2
              clear b3)))
    obtain ⟨W, hW⟩ : ∃ W, W = v3.alloc (.cells #[.string n2, .int .u32 x2, .bool h2] 36) := ⟨_, rfl⟩
    have BV := Lib.hid (show Below w.heap.size w W from hW ▸ B3.out.alloc B3.out.size _)
    have GV := Lib.hid (HON.out _ _ HG.out BV.out)
    rw [← hW]
    clear s0 s1 s2 S2 S3 B1 B2 B3 HR HR1 HT1 hW
    obtain ⟨n, hn⟩ : ∃ n, n = a1.size := ⟨_, rfl⟩
    have hnl : a1.size = n := hn.symm
    clear hn
    go_loop [15] (fun v15 => ∃ j : Nat, j ≤ n ∧ v15 = .int .i64 j ∧ Hid (∀ i (h : i < a1.size), i < j → a1[i]'h ≠ 58)) (fun v15 => n - (intOf v15).toNat)
    case atStart => exact ⟨0, by omega, rfl, Lib.hid (fun i h hi => absurd hi (by omega))⟩
    case round =>
      obtain ⟨j, hj, rfl, HNC⟩ := hrel
      by_cases hjn : j < n
      · have hjs : j < a1.size := by omega
        obtain ⟨c, hc⟩ : ∃ c, c = a1[j]'hjs := ⟨_, rfl⟩
        obtain ⟨y, hy⟩ : ∃ x, x = (c.toNat : Int) := ⟨_, rfl⟩
        have hidx : ((a1[j]'hjs).toNat : Int) = y := by rw [hy, hc]
        have j1 : (j : Int) < n := by omega
        have j0 : (0 : Int) ≤ j := by omega
        have hw1 : IntKind.i64.wrap ((j : Int) + 1) = j + 1 := by rw [IntKind.wrap_i64]; omega
        by_cases h58 : y = 58
        · subst h58
          clear HC HE hc hy HNC
          go_wp2_with (go_at_call 13; ((with_reducible refine (HA.out _ GV.out).mono ?_); rintro e v9 ⟨rfl, b9⟩))
          go_ret
          exact ⟨rfl, thn BV.out b9⟩
        · have e1 : (y == 58) = false := beq_eq_false_iff_ne.2 h58
          have hne := Lib.hid (show c ≠ 58 from fun e => h58 (by rw [hy, e]; rfl))
          have HCC := Lib.hid hc
          clear HC HE hc hy
          go_wp2_with fail
          go_round
          case rel => exact ⟨j + 1, by omega, by go_num, Lib.hid (fun i h hi => by
            by_cases e : i = j
            · subst e; rw [← HCC.out]; exact hne.out
            · exact HNC.out i h (by omega))⟩
          case measure => first | (simp [intOf]; done) | (simp [intOf]; omega)
      · obtain rfl : j = n := by omega
        have HNC := Lib.hid (no_colon15 (fun i h => HNC.out i h (by omega)))
        have kk : ¬ (j : Int) < j := by omega
        cases a3 with
        | false =>
          by_cases hz : a1.size = 0
          · have ha1 : a1 = ⟨#[]⟩ := size_zero15 hz
            have HT := Lib.hid (fun (W : World) (g : G W) => HC.out.text ⟨a1, 0, false⟩ W g (by show a1.size ≤ 1000000; omega) (by show 0 < 4294967296; omega))
            have hsz := text_size ⟨a1, 0, false⟩ (by show 0 < 4294967296; omega)
            simp only at hsz
            have HR2 := Lib.hid (fun (W : World) (g : G W) => HC.out.read (textR ⟨a1, 0, false⟩) W g (by omega))
            rw [show rdE (textR ⟨a1, 0, false⟩) = (e0, 161) from back_empty ha1] at HR2
            obtain ⟨t, ht⟩ : ∃ t, t = textR ⟨a1, 0, false⟩ := ⟨_, rfl⟩
            rw [← ht] at HT HR2
            unfold entV e0 at HR2
            unfold entV at HT
            simp only at HT HR2
            rw [show ((0 : Nat) : Int) = 0 from rfl] at HT
            obtain rfl : j = 0 := by omega
            subst ha1
            clear hsz hz ht HC HE HNC hnl hx
            go_wp2_with (first
              | (go_at_call 17
                 first
                   | (with_reducible refine (HT.out _ (HON.out _ _ GV.out ((Below.refl _ _).alloc (Nat.le_refl _) _))).mono ?_
                      rintro e v5 ⟨rfl, b5⟩
                      have S5 := Lib.hid (three (fresh (w := W) (n := ⟨#[]⟩) (x := 0) (h := false) (t := 36)) b5)
                      have B5 := Lib.hid (thn (BV.out.alloc BV.out.size _) b5)
                      have G5 := Lib.hid (HON.out _ _ HG.out B5.out)
                      clear b5)
                   | (with_reducible refine (HT.out _ G6.out).mono ?_
                      rintro e v7 ⟨rfl, b7⟩
                      have B7 := Lib.hid (thn B6.out b7)
                      have G7 := Lib.hid (HON.out _ _ HG.out B7.out)
                      clear b7))
              | (go_at_call 14
                 with_reducible refine (HR2.out _ G5.out).mono ?_
                 rintro e v6 ⟨rfl, b6⟩
                 have S6 := Lib.hid (three S5.out b6)
                 have S7 := Lib.hid (three S6.out (show Below v6.heap.size v6 (v6.alloc (.cells #[.string ⟨#[]⟩, .int .u32 0, .bool false] 36)) from (Below.refl _ _).alloc (Nat.le_refl _) _))
                 have s0 := S7.out.1
                 have s1 := S7.out.2.1
                 have s2 := S7.out.2.2
                 have B6 := Lib.hid (show Below w.heap.size w (v6.alloc (.cells #[.string ⟨#[]⟩, .int .u32 0, .bool false] 36)) from (thn B5.out b6).alloc (thn B5.out b6).size _)
                 have G6 := Lib.hid (HON.out _ _ HG.out B6.out)
                 clear b6)
              | (go_at_call 13; ((with_reducible refine (HA.out _ G6.out).mono ?_); rintro e v9 ⟨rfl, b9⟩); have B9 := Lib.hid (thn B6.out b9); clear b9))
            go_ret
            exact ⟨by first | rfl | simp, B9.out⟩
          · have HT := Lib.hid (fun (W : World) (g : G W) => HC.out.text ⟨a1, 0, false⟩ W g (by show a1.size ≤ 1000000; omega) (by show 0 < 4294967296; omega))
            have hsz := text_size ⟨a1, 0, false⟩ (by show 0 < 4294967296; omega)
            simp only at hsz
            have HR2 := Lib.hid (fun (W : World) (g : G W) => HC.out.read (textR ⟨a1, 0, false⟩) W g (by omega))
            rw [show rdE (textR ⟨a1, 0, false⟩) = (⟨a1, 0, false⟩, 0) from back_plain HNC.out hz] at HR2
            obtain ⟨t, ht⟩ : ∃ t, t = textR ⟨a1, 0, false⟩ := ⟨_, rfl⟩
            rw [← ht] at HT HR2
            unfold entV at HT HR2
            simp only at HT HR2
            rw [show ((0 : Nat) : Int) = 0 from rfl] at HT HR2
            have u1 : a1.toList.isEmpty = false := full15 hz
            have u2 : (a1.toList == a1.toList) = true := by simp
            skip
            clear hsz hz HC HNC hx ht HE
            go_wp2_with (first
              | (go_at_call 17
                 first
                   | (with_reducible refine (HT.out _ (HON.out _ _ GV.out ((Below.refl _ _).alloc (Nat.le_refl _) _))).mono ?_
                      rintro e v5 ⟨rfl, b5⟩
                      have S5 := Lib.hid (three (fresh (w := W) (n := a1) (x := 0) (h := false) (t := 36)) b5)
                      have B5 := Lib.hid (thn (BV.out.alloc BV.out.size _) b5)
                      have G5 := Lib.hid (HON.out _ _ HG.out B5.out)
                      clear b5)
                   | (with_reducible refine (HT.out _ G6.out).mono ?_
                      rintro e v7 ⟨rfl, b7⟩
                      have B7 := Lib.hid (thn B6.out b7)
                      have G7 := Lib.hid (HON.out _ _ HG.out B7.out)
                      clear b7))
              | (go_at_call 14
                 with_reducible refine (HR2.out _ G5.out).mono ?_
                 rintro e v6 ⟨rfl, b6⟩
                 have S6 := Lib.hid (three S5.out b6)
                 have S7 := Lib.hid (three S6.out (show Below v6.heap.size v6 (v6.alloc (.cells #[.string a1, .int .u32 0, .bool false] 36)) from (Below.refl _ _).alloc (Nat.le_refl _) _))
                 have s0 := S7.out.1
                 have s1 := S7.out.2.1
                 have s2 := S7.out.2.2
                 have B6 := Lib.hid (show Below w.heap.size w (v6.alloc (.cells #[.string a1, .int .u32 0, .bool false] 36)) from (thn B5.out b6).alloc (thn B5.out b6).size _)
                 have G6 := Lib.hid (HON.out _ _ HG.out B6.out)
                 clear b6)
              | (go_at_call 13; ((with_reducible refine (HA.out _ G6.out).mono ?_); rintro e v9 ⟨rfl, b9⟩); have B9 := Lib.hid (thn B6.out b9); clear b9))
            go_ret
            exact ⟨by first | rfl | simp, B9.out⟩
        | true =>
          cases a4 with
          | true =>
            by_cases hz : a1.size = 0
            · have ha1 : a1 = ⟨#[]⟩ := size_zero15 hz
              have HT := Lib.hid (fun (W : World) (g : G W) => HC.out.text ⟨a1, 2147483648, true⟩ W g (by show a1.size ≤ 1000000; omega) (by show 2147483648 < 4294967296; omega))
              have hsz := text_size ⟨a1, 2147483648, true⟩ (by show 2147483648 < 4294967296; omega)
              simp only at hsz
              have HR2 := Lib.hid (fun (W : World) (g : G W) => HC.out.read (textR ⟨a1, 2147483648, true⟩) W g (by omega))
              rw [show rdE (textR ⟨a1, 2147483648, true⟩) = (e0, 161) from back_empty ha1] at HR2
              obtain ⟨t, ht⟩ : ∃ t, t = textR ⟨a1, 2147483648, true⟩ := ⟨_, rfl⟩
              rw [← ht] at HT HR2
              unfold entV e0 at HR2
              unfold entV at HT
              simp only at HT HR2
              rw [show ((2147483648 : Nat) : Int) = 2147483648 from rfl] at HT
              obtain rfl : j = 0 := by omega
              subst ha1
              clear hsz hz ht HC HE HNC hnl hx
              go_wp2_with (first
                | (go_at_call 17
                   first
                     | (with_reducible refine (HT.out _ (HON.out _ _ GV.out ((Below.refl _ _).alloc (Nat.le_refl _) _))).mono ?_
                        rintro e v5 ⟨rfl, b5⟩
                        have S5 := Lib.hid (three (fresh (w := W) (n := ⟨#[]⟩) (x := 2147483648) (h := true) (t := 36)) b5)
                        have B5 := Lib.hid (thn (BV.out.alloc BV.out.size _) b5)
                        have G5 := Lib.hid (HON.out _ _ HG.out B5.out)
                        clear b5)
                     | (with_reducible refine (HT.out _ G6.out).mono ?_
                        rintro e v7 ⟨rfl, b7⟩
                        have B7 := Lib.hid (thn B6.out b7)
                        have G7 := Lib.hid (HON.out _ _ HG.out B7.out)
                        clear b7))
                | (go_at_call 14
                   with_reducible refine (HR2.out _ G5.out).mono ?_
                   rintro e v6 ⟨rfl, b6⟩
                   have S6 := Lib.hid (three S5.out b6)
                   have S7 := Lib.hid (three S6.out (show Below v6.heap.size v6 (v6.alloc (.cells #[.string ⟨#[]⟩, .int .u32 0, .bool false] 36)) from (Below.refl _ _).alloc (Nat.le_refl _) _))
                   have s0 := S7.out.1
                   have s1 := S7.out.2.1
                   have s2 := S7.out.2.2
                   have B6 := Lib.hid (show Below w.heap.size w (v6.alloc (.cells #[.string ⟨#[]⟩, .int .u32 0, .bool false] 36)) from (thn B5.out b6).alloc (thn B5.out b6).size _)
                   have G6 := Lib.hid (HON.out _ _ HG.out B6.out)
                   clear b6)
                | (go_at_call 13; ((with_reducible refine (HA.out _ G6.out).mono ?_); rintro e v9 ⟨rfl, b9⟩); have B9 := Lib.hid (thn B6.out b9); clear b9))
              go_ret
              exact ⟨by first | rfl | simp, B9.out⟩
            · have HT := Lib.hid (fun (W : World) (g : G W) => HC.out.text ⟨a1, 2147483648, true⟩ W g (by show a1.size ≤ 1000000; omega) (by show 2147483648 < 4294967296; omega))
              have hsz := text_size ⟨a1, 2147483648, true⟩ (by show 2147483648 < 4294967296; omega)
              simp only at hsz
              have HR2 := Lib.hid (fun (W : World) (g : G W) => HC.out.read (textR ⟨a1, 2147483648, true⟩) W g (by omega))
              rw [show rdE (textR ⟨a1, 2147483648, true⟩) = (⟨a1, 2147483648, true⟩, 0) from back_kill HNC.out hz] at HR2
              obtain ⟨t, ht⟩ : ∃ t, t = textR ⟨a1, 2147483648, true⟩ := ⟨_, rfl⟩
              rw [← ht] at HT HR2
              unfold entV at HT HR2
              simp only at HT HR2
              rw [show ((2147483648 : Nat) : Int) = 2147483648 from rfl] at HT HR2
              have u1 : a1.toList.isEmpty = false := full15 hz
              have u2 : (a1.toList == a1.toList) = true := by simp
              skip
              clear hsz hz HC HNC hx ht HE
              go_wp2_with (first
                | (go_at_call 17
                   first
                     | (with_reducible refine (HT.out _ (HON.out _ _ GV.out ((Below.refl _ _).alloc (Nat.le_refl _) _))).mono ?_
                        rintro e v5 ⟨rfl, b5⟩
                        have S5 := Lib.hid (three (fresh (w := W) (n := a1) (x := 2147483648) (h := true) (t := 36)) b5)
                        have B5 := Lib.hid (thn (BV.out.alloc BV.out.size _) b5)
                        have G5 := Lib.hid (HON.out _ _ HG.out B5.out)
                        clear b5)
                     | (with_reducible refine (HT.out _ G6.out).mono ?_
                        rintro e v7 ⟨rfl, b7⟩
                        have B7 := Lib.hid (thn B6.out b7)
                        have G7 := Lib.hid (HON.out _ _ HG.out B7.out)
                        clear b7))
                | (go_at_call 14
                   with_reducible refine (HR2.out _ G5.out).mono ?_
                   rintro e v6 ⟨rfl, b6⟩
                   have S6 := Lib.hid (three S5.out b6)
                   have S7 := Lib.hid (three S6.out (show Below v6.heap.size v6 (v6.alloc (.cells #[.string a1, .int .u32 2147483648, .bool true] 36)) from (Below.refl _ _).alloc (Nat.le_refl _) _))
                   have s0 := S7.out.1
                   have s1 := S7.out.2.1
                   have s2 := S7.out.2.2
                   have B6 := Lib.hid (show Below w.heap.size w (v6.alloc (.cells #[.string a1, .int .u32 2147483648, .bool true] 36)) from (thn B5.out b6).alloc (thn B5.out b6).size _)
                   have G6 := Lib.hid (HON.out _ _ HG.out B6.out)
                   clear b6)
                | (go_at_call 13; ((with_reducible refine (HA.out _ G6.out).mono ?_); rintro e v9 ⟨rfl, b9⟩); have B9 := Lib.hid (thn B6.out b9); clear b9))
              go_ret
              exact ⟨by first | rfl | simp, B9.out⟩
          | false =>
            by_cases hz : a1.size = 0
            · have ha1 : a1 = ⟨#[]⟩ := size_zero15 hz
              have HT := Lib.hid (fun (W : World) (g : G W) => HC.out.text ⟨a1, 327680 + er, true⟩ W g (by show a1.size ≤ 1000000; omega) (by show 327680 + er < 4294967296; omega))
              have hsz := text_size ⟨a1, 327680 + er, true⟩ (by show 327680 + er < 4294967296; omega)
              simp only at hsz
              have HR2 := Lib.hid (fun (W : World) (g : G W) => HC.out.read (textR ⟨a1, 327680 + er, true⟩) W g (by omega))
              rw [show rdE (textR ⟨a1, 327680 + er, true⟩) = (e0, 161) from back_empty ha1] at HR2
              obtain ⟨t, ht⟩ : ∃ t, t = textR ⟨a1, 327680 + er, true⟩ := ⟨_, rfl⟩
              rw [← ht] at HT HR2
              unfold entV e0 at HR2
              unfold entV at HT
              simp only at HT HR2
              rw [← hx] at HT
              obtain rfl : j = 0 := by omega
              subst ha1
              clear hsz hz ht HC HE HNC hnl hx
              go_wp2_with (first
                | (go_at_call 17
                   first
                     | (with_reducible refine (HT.out _ (HON.out _ _ GV.out ((Below.refl _ _).alloc (Nat.le_refl _) _))).mono ?_
                        rintro e v5 ⟨rfl, b5⟩
                        have S5 := Lib.hid (three (fresh (w := W) (n := ⟨#[]⟩) (x := x) (h := true) (t := 36)) b5)
                        have B5 := Lib.hid (thn (BV.out.alloc BV.out.size _) b5)
                        have G5 := Lib.hid (HON.out _ _ HG.out B5.out)
                        clear b5)
                     | (with_reducible refine (HT.out _ G6.out).mono ?_
                        rintro e v7 ⟨rfl, b7⟩
                        have B7 := Lib.hid (thn B6.out b7)
                        have G7 := Lib.hid (HON.out _ _ HG.out B7.out)
                        clear b7))
                | (go_at_call 14
                   with_reducible refine (HR2.out _ G5.out).mono ?_
                   rintro e v6 ⟨rfl, b6⟩
                   have S6 := Lib.hid (three S5.out b6)
                   have S7 := Lib.hid (three S6.out (show Below v6.heap.size v6 (v6.alloc (.cells #[.string ⟨#[]⟩, .int .u32 0, .bool false] 36)) from (Below.refl _ _).alloc (Nat.le_refl _) _))
                   have s0 := S7.out.1
                   have s1 := S7.out.2.1
                   have s2 := S7.out.2.2
                   have B6 := Lib.hid (show Below w.heap.size w (v6.alloc (.cells #[.string ⟨#[]⟩, .int .u32 0, .bool false] 36)) from (thn B5.out b6).alloc (thn B5.out b6).size _)
                   have G6 := Lib.hid (HON.out _ _ HG.out B6.out)
                   clear b6)
                | (go_at_call 13; ((with_reducible refine (HA.out _ G6.out).mono ?_); rintro e v9 ⟨rfl, b9⟩); have B9 := Lib.hid (thn B6.out b9); clear b9))
              go_ret
              exact ⟨by first | rfl | simp, B9.out⟩
            · have HT := Lib.hid (fun (W : World) (g : G W) => HC.out.text ⟨a1, 327680 + er, true⟩ W g (by show a1.size ≤ 1000000; omega) (by show 327680 + er < 4294967296; omega))
              have hsz := text_size ⟨a1, 327680 + er, true⟩ (by show 327680 + er < 4294967296; omega)
              simp only at hsz
              have HR2 := Lib.hid (fun (W : World) (g : G W) => HC.out.read (textR ⟨a1, 327680 + er, true⟩) W g (by omega))
              rw [show rdE (textR ⟨a1, 327680 + er, true⟩) = (⟨a1, 327680 + er, true⟩, 0) from back_errno HNC.out hz her] at HR2
              rw [text_e (e := ⟨a1, 327680 + er, true⟩) rfl (show ¬ 327680 + er = 2147483648 by omega) (show (327680 + er) / 65536 = 5 by omega)] at HT HR2
              simp only at HT HR2
              rw [show (327680 + er) % 65536 = er by omega] at HT HR2
              rw [hky] at HT HR2
              have j1 : ¬ 9223372036854775807 < a1.size + 1 := by omega
              have j2 : ¬ 9223372036854775807 < a1.size + 1 + ky.size := by omega
              unfold entV at HT HR2
              simp only at HT HR2
              rw [← hx] at HT HR2
              have u1 : a1.toList.isEmpty = false := full15 hz
              have u2 : (a1.toList == a1.toList) = true := by simp
              have u3 : (x == x) = true := by simp
              clear hsz hz HC HNC hx
              go_wp2_with (first
                | (go_at_call 17
                   first
                     | (with_reducible refine (HT.out _ (HON.out _ _ GV.out ((Below.refl _ _).alloc (Nat.le_refl _) _))).mono ?_
                        rintro e v5 ⟨rfl, b5⟩
                        have S5 := Lib.hid (three (fresh (w := W) (n := a1) (x := x) (h := true) (t := 36)) b5)
                        have B5 := Lib.hid (thn (BV.out.alloc BV.out.size _) b5)
                        have G5 := Lib.hid (HON.out _ _ HG.out B5.out)
                        clear b5)
                     | (with_reducible refine (HT.out _ G6.out).mono ?_
                        rintro e v7 ⟨rfl, b7⟩
                        have B7 := Lib.hid (thn B6.out b7)
                        have G7 := Lib.hid (HON.out _ _ HG.out B7.out)
                        clear b7))
                | (go_at_call 14
                   with_reducible refine (HR2.out _ G5.out).mono ?_
                   rintro e v6 ⟨rfl, b6⟩
                   have S6 := Lib.hid (three S5.out b6)
                   have S7 := Lib.hid (three S6.out (show Below v6.heap.size v6 (v6.alloc (.cells #[.string a1, .int .u32 x, .bool true] 36)) from (Below.refl _ _).alloc (Nat.le_refl _) _))
                   have s0 := S7.out.1
                   have s1 := S7.out.2.1
                   have s2 := S7.out.2.2
                   have B6 := Lib.hid (show Below w.heap.size w (v6.alloc (.cells #[.string a1, .int .u32 x, .bool true] 36)) from (thn B5.out b6).alloc (thn B5.out b6).size _)
                   have G6 := Lib.hid (HON.out _ _ HG.out B6.out)
                   clear b6)
                | (go_at_call 19
                   with_reducible refine (HE.out _ G7.out).mono ?_
                   rintro e v8 ⟨rfl, b8⟩
                   have B8 := Lib.hid (thn B7.out b8)
                   have G8 := Lib.hid (HON.out _ _ HG.out B8.out)
                   clear b8)
                | (go_at_call 13; ((with_reducible refine (HA.out _ G8.out).mono ?_); rintro e v9 ⟨rfl, b9⟩); have B9 := Lib.hid (thn B8.out b9); clear b9))
              go_ret
              exact ⟨by first | rfl | simp, B9.out⟩
  · have e1 : (f == 0) = false := beq_eq_false_iff_ne.2 h0
    obtain ⟨n2, act2, h2⟩ := E
    unfold entV at HR
    simp only at HR
    clear HRT HT1 HR1 hen hea hts HN
    go_enter Tryd.func5, Tryd.ntmps5
    go_wp2_with (go_at_call 14; ((with_reducible refine (HR.out _ HG.out).mono ?_); rintro e v1 ⟨rfl, b1⟩); have B1 := Lib.hid b1; clear b1)
    obtain ⟨W, hW⟩ : ∃ W, W = v1.alloc (.cells #[.string n2, .int .u32 ((act2 : Nat) : Int), .bool h2] 36) := ⟨_, rfl⟩
    have BV := Lib.hid (show Below w.heap.size w W from hW ▸ B1.out.alloc B1.out.size _)
    have GV := Lib.hid (HON.out _ _ HG.out BV.out)
    rw [← hW]
    clear B1 HR hW
    obtain ⟨n, hn⟩ : ∃ n, n = a1.size := ⟨_, rfl⟩
    have hnl : a1.size = n := hn.symm
    clear hn
    go_loop [15] (fun v15 => ∃ j : Nat, j ≤ n ∧ v15 = .int .i64 j ∧ Hid (∀ i (h : i < a1.size), i < j → a1[i]'h ≠ 58)) (fun v15 => n - (intOf v15).toNat)
    case atStart => exact ⟨0, by omega, rfl, Lib.hid (fun i h hi => absurd hi (by omega))⟩
    case round =>
      obtain ⟨j, hj, rfl, HNC⟩ := hrel
      by_cases hjn : j < n
      · have hjs : j < a1.size := by omega
        obtain ⟨c, hc⟩ : ∃ c, c = a1[j]'hjs := ⟨_, rfl⟩
        obtain ⟨y, hy⟩ : ∃ x, x = (c.toNat : Int) := ⟨_, rfl⟩
        have hidx : ((a1[j]'hjs).toNat : Int) = y := by rw [hy, hc]
        have j1 : (j : Int) < n := by omega
        have j0 : (0 : Int) ≤ j := by omega
        have hw1 : IntKind.i64.wrap ((j : Int) + 1) = j + 1 := by rw [IntKind.wrap_i64]; omega
        by_cases h58 : y = 58
        · subst h58
          clear HC HE hc hy HNC
          go_wp2_with (go_at_call 13; ((with_reducible refine (HA.out _ GV.out).mono ?_); rintro e v9 ⟨rfl, b9⟩))
          go_ret
          exact ⟨rfl, thn BV.out b9⟩
        · have e1 : (y == 58) = false := beq_eq_false_iff_ne.2 h58
          have hne := Lib.hid (show c ≠ 58 from fun e => h58 (by rw [hy, e]; rfl))
          have HCC := Lib.hid hc
          clear HC HE hc hy
          go_wp2_with fail
          go_round
          case rel => exact ⟨j + 1, by omega, by go_num, Lib.hid (fun i h hi => by
            by_cases e : i = j
            · subst e; rw [← HCC.out]; exact hne.out
            · exact HNC.out i h (by omega))⟩
          case measure => first | (simp [intOf]; done) | (simp [intOf]; omega)
      · obtain rfl : j = n := by omega
        have HNC := Lib.hid (no_colon15 (fun i h => HNC.out i h (by omega)))
        have kk : ¬ (j : Int) < j := by omega
        cases a3 with
        | false =>
          by_cases hz : a1.size = 0
          · have ha1 : a1 = ⟨#[]⟩ := size_zero15 hz
            have HT := Lib.hid (fun (W : World) (g : G W) => HC.out.text ⟨a1, 0, false⟩ W g (by show a1.size ≤ 1000000; omega) (by show 0 < 4294967296; omega))
            have hsz := text_size ⟨a1, 0, false⟩ (by show 0 < 4294967296; omega)
            simp only at hsz
            have HR2 := Lib.hid (fun (W : World) (g : G W) => HC.out.read (textR ⟨a1, 0, false⟩) W g (by omega))
            rw [show rdE (textR ⟨a1, 0, false⟩) = (e0, 161) from back_empty ha1] at HR2
            obtain ⟨t, ht⟩ : ∃ t, t = textR ⟨a1, 0, false⟩ := ⟨_, rfl⟩
            rw [← ht] at HT HR2
            unfold entV e0 at HR2
            unfold entV at HT
            simp only at HT HR2
            rw [show ((0 : Nat) : Int) = 0 from rfl] at HT
            obtain rfl : j = 0 := by omega
            subst ha1
            clear hsz hz ht HC HE HNC hnl hx
            go_wp2_with (first
              | (go_at_call 17
                 first
                   | (with_reducible refine (HT.out _ (HON.out _ _ GV.out ((Below.refl _ _).alloc (Nat.le_refl _) _))).mono ?_
                      rintro e v5 ⟨rfl, b5⟩
                      have S5 := Lib.hid (three (fresh (w := W) (n := ⟨#[]⟩) (x := 0) (h := false) (t := 36)) b5)
                      have B5 := Lib.hid (thn (BV.out.alloc BV.out.size _) b5)
                      have G5 := Lib.hid (HON.out _ _ HG.out B5.out)
                      clear b5)
                   | (with_reducible refine (HT.out _ G6.out).mono ?_
                      rintro e v7 ⟨rfl, b7⟩
                      have B7 := Lib.hid (thn B6.out b7)
                      have G7 := Lib.hid (HON.out _ _ HG.out B7.out)
                      clear b7))
              | (go_at_call 14
                 with_reducible refine (HR2.out _ G5.out).mono ?_
                 rintro e v6 ⟨rfl, b6⟩
                 have S6 := Lib.hid (three S5.out b6)
                 have S7 := Lib.hid (three S6.out (show Below v6.heap.size v6 (v6.alloc (.cells #[.string ⟨#[]⟩, .int .u32 0, .bool false] 36)) from (Below.refl _ _).alloc (Nat.le_refl _) _))
                 have s0 := S7.out.1
                 have s1 := S7.out.2.1
                 have s2 := S7.out.2.2
                 have B6 := Lib.hid (show Below w.heap.size w (v6.alloc (.cells #[.string ⟨#[]⟩, .int .u32 0, .bool false] 36)) from (thn B5.out b6).alloc (thn B5.out b6).size _)
                 have G6 := Lib.hid (HON.out _ _ HG.out B6.out)
                 clear b6)
              | (go_at_call 13; ((with_reducible refine (HA.out _ G6.out).mono ?_); rintro e v9 ⟨rfl, b9⟩); have B9 := Lib.hid (thn B6.out b9); clear b9))
            go_ret
            exact ⟨by first | rfl | simp, B9.out⟩
          · have HT := Lib.hid (fun (W : World) (g : G W) => HC.out.text ⟨a1, 0, false⟩ W g (by show a1.size ≤ 1000000; omega) (by show 0 < 4294967296; omega))
            have hsz := text_size ⟨a1, 0, false⟩ (by show 0 < 4294967296; omega)
            simp only at hsz
            have HR2 := Lib.hid (fun (W : World) (g : G W) => HC.out.read (textR ⟨a1, 0, false⟩) W g (by omega))
            rw [show rdE (textR ⟨a1, 0, false⟩) = (⟨a1, 0, false⟩, 0) from back_plain HNC.out hz] at HR2
            obtain ⟨t, ht⟩ : ∃ t, t = textR ⟨a1, 0, false⟩ := ⟨_, rfl⟩
            rw [← ht] at HT HR2
            unfold entV at HT HR2
            simp only at HT HR2
            rw [show ((0 : Nat) : Int) = 0 from rfl] at HT HR2
            have u1 : a1.toList.isEmpty = false := full15 hz
            have u2 : (a1.toList == a1.toList) = true := by simp
            skip
            clear hsz hz HC HNC hx ht HE
            go_wp2_with (first
              | (go_at_call 17
                 first
                   | (with_reducible refine (HT.out _ (HON.out _ _ GV.out ((Below.refl _ _).alloc (Nat.le_refl _) _))).mono ?_
                      rintro e v5 ⟨rfl, b5⟩
                      have S5 := Lib.hid (three (fresh (w := W) (n := a1) (x := 0) (h := false) (t := 36)) b5)
                      have B5 := Lib.hid (thn (BV.out.alloc BV.out.size _) b5)
                      have G5 := Lib.hid (HON.out _ _ HG.out B5.out)
                      clear b5)
                   | (with_reducible refine (HT.out _ G6.out).mono ?_
                      rintro e v7 ⟨rfl, b7⟩
                      have B7 := Lib.hid (thn B6.out b7)
                      have G7 := Lib.hid (HON.out _ _ HG.out B7.out)
                      clear b7))
              | (go_at_call 14
                 with_reducible refine (HR2.out _ G5.out).mono ?_
                 rintro e v6 ⟨rfl, b6⟩
                 have S6 := Lib.hid (three S5.out b6)
                 have S7 := Lib.hid (three S6.out (show Below v6.heap.size v6 (v6.alloc (.cells #[.string a1, .int .u32 0, .bool false] 36)) from (Below.refl _ _).alloc (Nat.le_refl _) _))
                 have s0 := S7.out.1
                 have s1 := S7.out.2.1
                 have s2 := S7.out.2.2
                 have B6 := Lib.hid (show Below w.heap.size w (v6.alloc (.cells #[.string a1, .int .u32 0, .bool false] 36)) from (thn B5.out b6).alloc (thn B5.out b6).size _)
                 have G6 := Lib.hid (HON.out _ _ HG.out B6.out)
                 clear b6)
              | (go_at_call 13; ((with_reducible refine (HA.out _ G6.out).mono ?_); rintro e v9 ⟨rfl, b9⟩); have B9 := Lib.hid (thn B6.out b9); clear b9))
            go_ret
            exact ⟨by first | rfl | simp, B9.out⟩
        | true =>
          cases a4 with
          | true =>
            by_cases hz : a1.size = 0
            · have ha1 : a1 = ⟨#[]⟩ := size_zero15 hz
              have HT := Lib.hid (fun (W : World) (g : G W) => HC.out.text ⟨a1, 2147483648, true⟩ W g (by show a1.size ≤ 1000000; omega) (by show 2147483648 < 4294967296; omega))
              have hsz := text_size ⟨a1, 2147483648, true⟩ (by show 2147483648 < 4294967296; omega)
              simp only at hsz
              have HR2 := Lib.hid (fun (W : World) (g : G W) => HC.out.read (textR ⟨a1, 2147483648, true⟩) W g (by omega))
              rw [show rdE (textR ⟨a1, 2147483648, true⟩) = (e0, 161) from back_empty ha1] at HR2
              obtain ⟨t, ht⟩ : ∃ t, t = textR ⟨a1, 2147483648, true⟩ := ⟨_, rfl⟩
              rw [← ht] at HT HR2
              unfold entV e0 at HR2
              unfold entV at HT
              simp only at HT HR2
              rw [show ((2147483648 : Nat) : Int) = 2147483648 from rfl] at HT
              obtain rfl : j = 0 := by omega
              subst ha1
              clear hsz hz ht HC HE HNC hnl hx
              go_wp2_with (first
                | (go_at_call 17
                   first
                     | (with_reducible refine (HT.out _ (HON.out _ _ GV.out ((Below.refl _ _).alloc (Nat.le_refl _) _))).mono ?_
                        rintro e v5 ⟨rfl, b5⟩
                        have S5 := Lib.hid (three (fresh (w := W) (n := ⟨#[]⟩) (x := 2147483648) (h := true) (t := 36)) b5)
                        have B5 := Lib.hid (thn (BV.out.alloc BV.out.size _) b5)
                        have G5 := Lib.hid (HON.out _ _ HG.out B5.out)
                        clear b5)
                     | (with_reducible refine (HT.out _ G6.out).mono ?_
                        rintro e v7 ⟨rfl, b7⟩
                        have B7 := Lib.hid (thn B6.out b7)
                        have G7 := Lib.hid (HON.out _ _ HG.out B7.out)
                        clear b7))
                | (go_at_call 14
                   with_reducible refine (HR2.out _ G5.out).mono ?_
                   rintro e v6 ⟨rfl, b6⟩
                   have S6 := Lib.hid (three S5.out b6)
                   have S7 := Lib.hid (three S6.out (show Below v6.heap.size v6 (v6.alloc (.cells #[.string ⟨#[]⟩, .int .u32 0, .bool false] 36)) from (Below.refl _ _).alloc (Nat.le_refl _) _))
                   have s0 := S7.out.1
                   have s1 := S7.out.2.1
                   have s2 := S7.out.2.2
                   have B6 := Lib.hid (show Below w.heap.size w (v6.alloc (.cells #[.string ⟨#[]⟩, .int .u32 0, .bool false] 36)) from (thn B5.out b6).alloc (thn B5.out b6).size _)
                   have G6 := Lib.hid (HON.out _ _ HG.out B6.out)
                   clear b6)
                | (go_at_call 13; ((with_reducible refine (HA.out _ G6.out).mono ?_); rintro e v9 ⟨rfl, b9⟩); have B9 := Lib.hid (thn B6.out b9); clear b9))
              go_ret
              exact ⟨by first | rfl | simp, B9.out⟩
            · have HT := Lib.hid (fun (W : World) (g : G W) => HC.out.text ⟨a1, 2147483648, true⟩ W g (by show a1.size ≤ 1000000; omega) (by show 2147483648 < 4294967296; omega))
              have hsz := text_size ⟨a1, 2147483648, true⟩ (by show 2147483648 < 4294967296; omega)
              simp only at hsz
              have HR2 := Lib.hid (fun (W : World) (g : G W) => HC.out.read (textR ⟨a1, 2147483648, true⟩) W g (by omega))
              rw [show rdE (textR ⟨a1, 2147483648, true⟩) = (⟨a1, 2147483648, true⟩, 0) from back_kill HNC.out hz] at HR2
              obtain ⟨t, ht⟩ : ∃ t, t = textR ⟨a1, 2147483648, true⟩ := ⟨_, rfl⟩
              rw [← ht] at HT HR2
              unfold entV at HT HR2
              simp only at HT HR2
              rw [show ((2147483648 : Nat) : Int) = 2147483648 from rfl] at HT HR2
              have u1 : a1.toList.isEmpty = false := full15 hz
              have u2 : (a1.toList == a1.toList) = true := by simp
              skip
              clear hsz hz HC HNC hx ht HE
              go_wp2_with (first
                | (go_at_call 17
                   first
                     | (with_reducible refine (HT.out _ (HON.out _ _ GV.out ((Below.refl _ _).alloc (Nat.le_refl _) _))).mono ?_
                        rintro e v5 ⟨rfl, b5⟩
                        have S5 := Lib.hid (three (fresh (w := W) (n := a1) (x := 2147483648) (h := true) (t := 36)) b5)
                        have B5 := Lib.hid (thn (BV.out.alloc BV.out.size _) b5)
                        have G5 := Lib.hid (HON.out _ _ HG.out B5.out)
                        clear b5)
                     | (with_reducible refine (HT.out _ G6.out).mono ?_
                        rintro e v7 ⟨rfl, b7⟩
                        have B7 := Lib.hid (thn B6.out b7)
                        have G7 := Lib.hid (HON.out _ _ HG.out B7.out)
                        clear b7))
                | (go_at_call 14
                   with_reducible refine (HR2.out _ G5.out).mono ?_
                   rintro e v6 ⟨rfl, b6⟩
                   have S6 := Lib.hid (three S5.out b6)
                   have S7 := Lib.hid (three S6.out (show Below v6.heap.size v6 (v6.alloc (.cells #[.string a1, .int .u32 2147483648, .bool true] 36)) from (Below.refl _ _).alloc (Nat.le_refl _) _))
                   have s0 := S7.out.1
                   have s1 := S7.out.2.1
                   have s2 := S7.out.2.2
                   have B6 := Lib.hid (show Below w.heap.size w (v6.alloc (.cells #[.string a1, .int .u32 2147483648, .bool true] 36)) from (thn B5.out b6).alloc (thn B5.out b6).size _)
                   have G6 := Lib.hid (HON.out _ _ HG.out B6.out)
                   clear b6)
                | (go_at_call 13; ((with_reducible refine (HA.out _ G6.out).mono ?_); rintro e v9 ⟨rfl, b9⟩); have B9 := Lib.hid (thn B6.out b9); clear b9))
              go_ret
              exact ⟨by first | rfl | simp, B9.out⟩
          | false =>
            by_cases hz : a1.size = 0
            · have ha1 : a1 = ⟨#[]⟩ := size_zero15 hz
              have HT := Lib.hid (fun (W : World) (g : G W) => HC.out.text ⟨a1, 327680 + er, true⟩ W g (by show a1.size ≤ 1000000; omega) (by show 327680 + er < 4294967296; omega))
              have hsz := text_size ⟨a1, 327680 + er, true⟩ (by show 327680 + er < 4294967296; omega)
              simp only at hsz
              have HR2 := Lib.hid (fun (W : World) (g : G W) => HC.out.read (textR ⟨a1, 327680 + er, true⟩) W g (by omega))
              rw [show rdE (textR ⟨a1, 327680 + er, true⟩) = (e0, 161) from back_empty ha1] at HR2
              obtain ⟨t, ht⟩ : ∃ t, t = textR ⟨a1, 327680 + er, true⟩ := ⟨_, rfl⟩
              rw [← ht] at HT HR2
              unfold entV e0 at HR2
              unfold entV at HT
              simp only at HT HR2
              rw [← hx] at HT
              obtain rfl : j = 0 := by omega
              subst ha1
              clear hsz hz ht HC HE HNC hnl hx
              go_wp2_with (first
                | (go_at_call 17
                   first
                     | (with_reducible refine (HT.out _ (HON.out _ _ GV.out ((Below.refl _ _).alloc (Nat.le_refl _) _))).mono ?_
                        rintro e v5 ⟨rfl, b5⟩
                        have S5 := Lib.hid (three (fresh (w := W) (n := ⟨#[]⟩) (x := x) (h := true) (t := 36)) b5)
                        have B5 := Lib.hid (thn (BV.out.alloc BV.out.size _) b5)
                        have G5 := Lib.hid (HON.out _ _ HG.out B5.out)
                        clear b5)
                     | (with_reducible refine (HT.out _ G6.out).mono ?_
                        rintro e v7 ⟨rfl, b7⟩
                        have B7 := Lib.hid (thn B6.out b7)
                        have G7 := Lib.hid (HON.out _ _ HG.out B7.out)
                        clear b7))
                | (go_at_call 14
                   with_reducible refine (HR2.out _ G5.out).mono ?_
                   rintro e v6 ⟨rfl, b6⟩
                   have S6 := Lib.hid (three S5.out b6)
                   have S7 := Lib.hid (three S6.out (show Below v6.heap.size v6 (v6.alloc (.cells #[.string ⟨#[]⟩, .int .u32 0, .bool false] 36)) from (Below.refl _ _).alloc (Nat.le_refl _) _))
                   have s0 := S7.out.1
                   have s1 := S7.out.2.1
                   have s2 := S7.out.2.2
                   have B6 := Lib.hid (show Below w.heap.size w (v6.alloc (.cells #[.string ⟨#[]⟩, .int .u32 0, .bool false] 36)) from (thn B5.out b6).alloc (thn B5.out b6).size _)
                   have G6 := Lib.hid (HON.out _ _ HG.out B6.out)
                   clear b6)
                | (go_at_call 13; ((with_reducible refine (HA.out _ G6.out).mono ?_); rintro e v9 ⟨rfl, b9⟩); have B9 := Lib.hid (thn B6.out b9); clear b9))
              go_ret
              exact ⟨by first | rfl | simp, B9.out⟩
            · have HT := Lib.hid (fun (W : World) (g : G W) => HC.out.text ⟨a1, 327680 + er, true⟩ W g (by show a1.size ≤ 1000000; omega) (by show 327680 + er < 4294967296; omega))
              have hsz := text_size ⟨a1, 327680 + er, true⟩ (by show 327680 + er < 4294967296; omega)
              simp only at hsz
              have HR2 := Lib.hid (fun (W : World) (g : G W) => HC.out.read (textR ⟨a1, 327680 + er, true⟩) W g (by omega))
              rw [show rdE (textR ⟨a1, 327680 + er, true⟩) = (⟨a1, 327680 + er, true⟩, 0) from back_errno HNC.out hz her] at HR2
              rw [text_e (e := ⟨a1, 327680 + er, true⟩) rfl (show ¬ 327680 + er = 2147483648 by omega) (show (327680 + er) / 65536 = 5 by omega)] at HT HR2
              simp only at HT HR2
              rw [show (327680 + er) % 65536 = er by omega] at HT HR2
              rw [hky] at HT HR2
              have j1 : ¬ 9223372036854775807 < a1.size + 1 := by omega
              have j2 : ¬ 9223372036854775807 < a1.size + 1 + ky.size := by omega
              unfold entV at HT HR2
              simp only at HT HR2
              rw [← hx] at HT HR2
              have u1 : a1.toList.isEmpty = false := full15 hz
              have u2 : (a1.toList == a1.toList) = true := by simp
              have u3 : (x == x) = true := by simp
              clear hsz hz HC HNC hx
              go_wp2_with (first
                | (go_at_call 17
                   first
                     | (with_reducible refine (HT.out _ (HON.out _ _ GV.out ((Below.refl _ _).alloc (Nat.le_refl _) _))).mono ?_
                        rintro e v5 ⟨rfl, b5⟩
                        have S5 := Lib.hid (three (fresh (w := W) (n := a1) (x := x) (h := true) (t := 36)) b5)
                        have B5 := Lib.hid (thn (BV.out.alloc BV.out.size _) b5)
                        have G5 := Lib.hid (HON.out _ _ HG.out B5.out)
                        clear b5)
                     | (with_reducible refine (HT.out _ G6.out).mono ?_
                        rintro e v7 ⟨rfl, b7⟩
                        have B7 := Lib.hid (thn B6.out b7)
                        have G7 := Lib.hid (HON.out _ _ HG.out B7.out)
                        clear b7))
                | (go_at_call 14
                   with_reducible refine (HR2.out _ G5.out).mono ?_
                   rintro e v6 ⟨rfl, b6⟩
                   have S6 := Lib.hid (three S5.out b6)
                   have S7 := Lib.hid (three S6.out (show Below v6.heap.size v6 (v6.alloc (.cells #[.string a1, .int .u32 x, .bool true] 36)) from (Below.refl _ _).alloc (Nat.le_refl _) _))
                   have s0 := S7.out.1
                   have s1 := S7.out.2.1
                   have s2 := S7.out.2.2
                   have B6 := Lib.hid (show Below w.heap.size w (v6.alloc (.cells #[.string a1, .int .u32 x, .bool true] 36)) from (thn B5.out b6).alloc (thn B5.out b6).size _)
                   have G6 := Lib.hid (HON.out _ _ HG.out B6.out)
                   clear b6)
                | (go_at_call 19
                   with_reducible refine (HE.out _ G7.out).mono ?_
                   rintro e v8 ⟨rfl, b8⟩
                   have B8 := Lib.hid (thn B7.out b8)
                   have G8 := Lib.hid (HON.out _ _ HG.out B8.out)
                   clear b8)
                | (go_at_call 13; ((with_reducible refine (HA.out _ G8.out).mono ?_); rintro e v9 ⟨rfl, b9⟩); have B9 := Lib.hid (thn B8.out b9); clear b9))
              go_ret
              exact ⟨by first | rfl | simp, B9.out⟩

set_option maxRecDepth 100000 in
theorem lifted (HC : ValuesC G15) (HN : NameC15 G15) (os : Os) (started : os.Started) (H : Type) (enc : TypeId × Value → H) :
    ReturnsInHanded {} Tryd.checked os 5 .any (fun w args => (Rows.valuesBackSpec.pre enc Tryd.prog Tryd.f5 [] false w args ∧ laidMetH Tryd.prog listed15 w) ∧ sizedMet enc Tryd.prog Tryd.f5 (OpenSpec.ofChange Rows.valuesBackSpec) false w args)
      (Rows.valuesBackSpec.post enc Tryd.prog Tryd.f5 false true false false) := by
  refine returnsInHanded_of_change_and (C := Tryd.checked) (X := fun w _ => laidMetH Tryd.prog listed15 w) (fun _ _ _ hh h => h.of_heap hh) ownKnob_none started (by kernel_rfl) Tryd.func5
    (ChangeSpec.witness_shaped (enc := enc) (C := Tryd.checked) (os := os) (X := fun w _ => laidMetH Tryd.prog listed15 w) false (World.doorLaid Tryd.prog 4000 os) #[.string ⟨#[]⟩, .string ⟨#[]⟩, .int .u32 0, .bool false, .bool false] 8 rfl (World.shaped_of_RefB (by kernel_rfl) (by kernel_rfl)) (by kernel_rfl) (by kernel_rfl) (by kernel_rfl) (door_met15 os _)) ?_
  intro W base args ds gs before hval0 hW _ _ hL _
  have hG : G15 W := of_laid15 hL
  have hval : ∀ (j : Nat) t v, Tryd.f5.params[j]? = some t → args[j]? = some v → Value.okWide Tryd.prog W .any base t v := hval0
  have hW' := hW
  obtain ⟨p, q, hA0, hV, rfl, hfz, hnd⟩ := hW
  have hA : DataW.TrodAll enc Tryd.prog W 0 (fun _ => true) true Tryd.f5.params.toList args.toList ds p := hA0
  rw [Tryd.params5] at hA hval
  obtain ⟨v0, vs0, d0, ds0, p0, q0, hargs, rfl, rfl, h0, r0⟩ := trodAll_cons hA
  obtain ⟨v1, vs1, d1, ds1, p1, q1, rfl, rfl, rfl, h1, r1⟩ := trodAll_cons r0
  obtain ⟨v2, vs2, d2, ds2, p2, q2, rfl, rfl, rfl, h2, r2⟩ := trodAll_cons r1
  obtain ⟨v3, vs3, d3, ds3, p3, q3, rfl, rfl, rfl, h3, r3⟩ := trodAll_cons r2
  obtain ⟨v4, vs4, d4, ds4, p4, q4, rfl, rfl, rfl, h4, r4⟩ := trodAll_cons r3
  obtain ⟨rfl, rfl, rfl⟩ := trodAll_nil r4
  obtain rfl : args = #[v0, v1, v2, v3, v4] := by cases args; simp_all
  obtain ⟨rfl, rfl⟩ := trodVars_none hV
  obtain ⟨a0, rfl, rfl, rfl, w0⟩ := open_string Tryd.underlying9 (hval 0 9 v0 rfl rfl) h0
  obtain ⟨a1, rfl, rfl, rfl, w1⟩ := open_string Tryd.underlying9 (hval 1 9 v1 rfl rfl) h1
  obtain ⟨a2, rfl, rfl, rfl, w2⟩ := open_int Tryd.underlying33 (hval 2 33 v2 rfl rfl) h2
  obtain ⟨a3, rfl, rfl, rfl⟩ := open_bool Tryd.underlying4 (hval 3 4 v3 rfl rfl) h3
  have w3 := trivial
  obtain ⟨a4, rfl, rfl, rfl⟩ := open_bool Tryd.underlying4 (hval 4 4 v4 rfl rfl) h4
  have w4 := trivial
  clear hA0 hval0
  simp only [List.append_nil] at hW'
  refine (walk HC HN a0 a1 a2 a3 a4 W hG w0 w1 w2 w3 w4).mono fun e W' ⟨he, bel⟩ => ?_
  subst he
  exact ⟨_, rfl, _, _, _, [], [], [], hW', trodAll_mk1 (shut_bool Tryd.underlying4 _), (trodAll_cons_mk (shut_string Tryd.underlying9 w0) (trodAll_cons_mk (shut_string Tryd.underlying9 w1) (trodAll_cons_mk (shut_int Tryd.underlying33 w2) (trodAll_cons_mk (shut_bool Tryd.underlying4 _) (trodAll_cons_mk (shut_bool Tryd.underlying4 _) trodAll_mk0))))), rfl, bel.frame _, fun h => by cases h⟩

theorem over (HC : ValuesC G15) (HN : NameC15 G15) : Rows.valuesBackRow.holds Tryd.pinned (OpenSpec.ofChange Rows.valuesBackSpec) :=
  OpenClaim.holds_of_wide 5 Tryd.f5 rfl rfl rfl rfl rfl rfl rfl ⟨rfl, rfl, rfl, rfl, rfl⟩ rfl rfl rfl rfl rfl (by kernel_rfl) Tryd.func5 (by kernel_rfl)
    (of_decide_eq_true (by kernel_rfl)) (by unfold Func.isWrapper; first | (rw [if_pos (by decide +kernel)]; kernel_rfl) | (rw [if_neg (by decide +kernel)]; exact ⟨rfl, rfl⟩))
    (fun os started H enc _ => lifted HC HN os started H enc)

/-- The row's statement. -/
theorem row_holds : Rows.ValuesBackSaid := over valuesC nameC15
/-- The statement: the row, its table tied to the program's text. -/
theorem proved : Rows.ValuesBackCardSaid :=
  Claim7.holds_tied_plain_at .later [] [.data, .data, .data, .sentinel, .sentinel, .data, .data] true Rows.valuesBackCard.stood.harness Rows.valuesBackCard.stood.looks
    row_holds (fun _ h => by cases h) (by kernel_rfl) (fun _ h => by cases h) valuesBack_row_tie rfl ⟨rfl, rfl⟩ (by kernel_rfl) rfl
    (fun f fn hf hfn => by
      obtain rfl : f = 5 := Option.some.inj ((show Tryd.prog.funcNamed "vestibule/vestibulelaw15.ValuesBack" = some 5 by kernel_rfl).symm.trans hf) |>.symm
      obtain rfl : fn = Tryd.f5 := (Option.some.inj (Tryd.func5.symm.trans hfn)).symm
      exact ⟨by kernel_rfl, fun j t ht => by
        have hm : t ∈ Tryd.f5.params.toList := by simpa using Array.mem_of_getElem? ht
        have hall : (Tryd.f5.params.toList.all fun u => !Tryd.prog.wantsStandIn u) = true := by kernel_rfl
        exact (show Tryd.prog.wantsStandIn t = false by simpa using List.all_eq_true.1 hall t hm)⟩)
    (by kernel_rfl)
#print axioms proved
end Go.Proofs.YtfmfjnnbldmdlaaDoor.valuesBack
