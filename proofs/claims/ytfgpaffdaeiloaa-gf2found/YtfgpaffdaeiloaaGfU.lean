/- Irreducible, Find of the reference; awake. -/
import Derived.Test.YtfgpaffdaeiloaaGfT
import Derived.Test.YtfgpaffdaeiloaaGfQ
namespace Go.Proofs.Ytfgpaffdaeiloaa
set_option maxRecDepth 100000
open Go Go.RowKit
set_option linter.unusedVariables false
set_option linter.unusedSimpArgs false

theorem rdegree_to (x j : Nat) (w : World) (h : x < 18446744073709551616) (hj : nb2 x = j + 1) :
    Calls Try.prog 15 #[.int .u64 x] w fun e w' => e = .returned (.int .i64 (j : Nat)) ∧ w = w' := by
  refine (rdegree_any x w h).mono ?_
  rintro e w' ⟨rfl, rfl⟩
  exact ⟨ret_int (by rw [hj]; omega), rfl⟩

set_option maxHeartbeats 1000000 in
theorem rirr_any (m : Nat) (w : World) (hm : m < 18446744073709551616) :
    Calls Try.prog 25 #[.int .u64 m] w fun e w' => e = .returned (.bool (irrB m)) ∧ Below w.heap.size w w' := by
  have hn := nb2_le hm
  obtain ⟨n, hnn⟩ : ∃ n, n = nb2 m := ⟨_, rfl⟩
  rw [← hnn] at hn
  by_cases hs : n ≤ 1
  · rw [irrB_small (by omega) hm]
    have q1 : (n : Int) - 1 < 1 := by omega
    go_enter Try.func25, Try.ntmps25
    go_wp2_with fail
    refine (rdegree_any m _ hm).mono ?_
    rintro e w1 ⟨rfl, rfl⟩
    rw [← hnn]
    go_wp2
    go_ret
    exact ⟨rfl, Below.refl _ _⟩
  · have h0 : 0 < m := by
      rcases Nat.eq_zero_or_pos m with h | h
      · subst h; rw [nb2_zero] at hnn; omega
      · exact h
    obtain ⟨hd, _, _⟩ := deg_nb2 h0 hm
    obtain ⟨d, hdd⟩ : ∃ d, d = n - 1 := ⟨_, rfl⟩
    rw [← hnn, ← hdd] at hd
    have hjn : nb2 m = d + 1 := by omega
    have hd1 : 1 ≤ d := by omega
    have hd63 : d ≤ 63 := by omega
    have HD := Lib.hid hd
    have HJ := Lib.hid hjn
    obtain ⟨r, hr⟩ : ∃ r, r = irrB m := ⟨_, rfl⟩
    rw [← hr]
    have HR := Lib.hid hr
    have q1 : ¬ (d : Int) < 1 := by omega
    clear hd hjn hr hnn hs hdd hn
    go_enter Try.func25, Try.ntmps25
    go_wp2_with fail
    refine (rdegree_to m d _ hm HJ.out).mono ?_
    rintro e w1 ⟨rfl, rfl⟩
    go_wp2
    go_loopw [4] (fun x wr => ∃ f : Nat, x = .int .u64 (f : Int) ∧ 2 ≤ f ∧ f ≤ 4294967296 ∧ Tried m f ∧ Below w.heap.size w wr) (fun x _ => 4294967297 - (intOf x).toNat)
    case atStart => exact ⟨2, rfl, by decide, by decide, fun g h1 h2 => by omega, Below.refl _ _⟩
    case round =>
      obtain ⟨f, rfl, hf2, hfB, htr, hb⟩ := hrel
      have hfl : f < 18446744073709551616 := by omega
      obtain ⟨hdf, _, _⟩ := deg_nb2 (show 0 < f by omega) hfl
      obtain ⟨k, hk⟩ : ∃ k, k = nb2 f - 1 := ⟨_, rfl⟩
      rw [← hk] at hdf
      have hkn : nb2 f = k + 1 := by omega
      have hk1 := deg_ge hdf hf2
      have hkB : k ≤ 63 := by omega
      have HK := Lib.hid hkn
      have HDF := Lib.hid hdf
      have HTR := Lib.hid htr
      clear hdf htr hk hkn
      by_cases hle : 2 * k ≤ d
      · have hfs : f < 4294967296 := by
          have h1 := HDF.out.2
          exact Nat.lt_of_lt_of_le h1 (Nat.pow_le_pow_right (n := 2) (by decide) (show k + 1 ≤ 32 by omega))
        have q2 : 2 * (k : Int) ≤ (d : Int) := by omega
        by_cases hdv : Dv f m
        · have HDB : Hid (dvB f m = true) := (dvB_iff (by omega) hfl).2 hdv
          have HF : Hid (r = false) := by unfold Hid; rw [HR.out]; exact tried_no HD.out hd1 HDF.out hk1 hle hdv
          clear hdv
          go_wp2_with fail
          refine (rdegree_to f k _ hfl HK.out).mono ?_
          rintro e w2 ⟨rfl, rfl⟩
          go_wp2_with fail
          refine (rdiv_any f m _ hfl hm (by omega)).mono ?_
          rw [HDB.out]
          rintro e w2 ⟨rfl, hb2⟩
          go_wp2
          go_ret
          exact ⟨ret_bool (by rw [HF.out]), next hb hb2⟩
        · have HDB : Hid (dvB f m = false) := dvB_no (by omega) hfl hdv
          have HT2 : Hid (Tried m (f + 1)) := by
            unfold Hid
            intro g hg hgl
            rcases (show g < f ∨ g = f by omega) with h | h
            · exact HTR.out g hg h
            · rw [h]; exact hdv
          clear hdv
          go_wp2_with fail
          refine (rdegree_to f k _ hfl HK.out).mono ?_
          rintro e w2 ⟨rfl, rfl⟩
          go_wp2_with fail
          refine (rdiv_any f m _ hfl hm (by omega)).mono ?_
          rw [HDB.out]
          rintro e w2 ⟨rfl, hb2⟩
          go_wp2
          go_roundw
          case rel => exact ⟨f + 1, by go_num, by omega, by omega, HT2.out, next hb hb2⟩
          case measure => simp [intOf]; omega
      · have q2 : ¬ 2 * (k : Int) ≤ (d : Int) := by omega
        have HF : Hid (r = true) := by unfold Hid; rw [HR.out]; exact tried_end HD.out hd1 HDF.out (by omega) HTR.out
        go_wp2_with fail
        refine (rdegree_to f k _ hfl HK.out).mono ?_
        rintro e w2 ⟨rfl, rfl⟩
        go_wp2
        go_ret
        exact ⟨ret_bool (by rw [HF.out]), hb⟩

theorem rfind_bad (seed : Nat) (d : Int) (w : World) (h : d < 2 ∨ 53 < d) :
    Calls Try.prog 27 #[.int .u64 seed, .int .i64 d] w fun e w' => e = .returned (.tuple #[.int .u64 0, .int .i64 6]) ∧ w = w' := by
  rcases (show d < 2 ∨ ¬ d < 2 ∧ 53 < d by omega) with h1 | ⟨h1, h2⟩
  all_goals
    clear h
    go_enter Try.func27, Try.ntmps27
    go_wp2
    go_ret2
    exact ⟨rfl, rfl⟩

set_option maxHeartbeats 1000000 in
theorem rfind_ok (seed d : Nat) (w : World) (hs : seed < 18446744073709551616) (h2 : 2 ≤ d) (h53 : d ≤ 53) :
    Calls Try.prog 27 #[.int .u64 seed, .int .i64 d] w fun e w' => ∃ k m : Nat, e = .returned (.tuple #[.int .u64 (m : Nat), .int .i64 0]) ∧ FirstIrr d seed k m ∧ Below w.heap.size w w' := by
  obtain ⟨t, ht, hti⟩ := odd_some h2 h53
  obtain ⟨H, hH⟩ : ∃ H, H = 2 ^ (d - 1) := ⟨_, rfl⟩
  have hHp : 0 < H := by rw [hH]; exact Nat.two_pow_pos _
  have hd2 : 2 ^ d = 2 * H := by rw [hH, ← Nat.pow_succ']; congr 1; omega
  have hHl : H ≤ 4503599627370496 := by rw [hH]; exact Nat.pow_le_pow_right (n := 2) (by decide) (show d - 1 ≤ 52 by omega)
  rw [← hH] at ht
  have HH := Lib.hid hH
  have HTI := Lib.hid hti
  have HFO : Hid (∀ x, oddOf d x = 2 * H + 2 * x + 1) := by unfold Hid; intro x; unfold oddOf; rw [hd2]; omega
  obtain ⟨s0, hs0⟩ : ∃ s0, s0 = seed % H := ⟨_, rfl⟩
  have hs0l : s0 < H := by rw [hs0]; exact Nat.mod_lt _ hHp
  have es1 : (seed : Int) % (H : Int) = (s0 : Int) := by rw [hs0]; simp
  have HS0 := Lib.hid hs0
  have hH0 : ((H : Int) == 0) = false := by simp; omega
  clear hti hH hd2 hs0
  go_enter Try.func27, Try.ntmps27
  go_wp2
  go_loopw [6, 7] (fun x i wr => ∃ j h : Nat, j + 1 ≤ d ∧ x = .int .u64 (h : Int) ∧ h = 2 ^ j ∧ i = .int .i64 ((j + 1 : Nat) : Int) ∧ Below w.heap.size w wr) (fun _ i _ => d - (intOf i).toNat)
  case atStart => exact ⟨0, 1, by omega, rfl, rfl, rfl, Below.refl _ _⟩
  case round =>
    obtain ⟨j, h, hj, rfl, hh, rfl, hb⟩ := hrel
    by_cases hlt : j + 1 < d
    · have hhl : h ≤ 4503599627370496 := by rw [hh]; exact Nat.pow_le_pow_right (n := 2) (by decide) (show j ≤ 52 by omega)
      have HN : Hid (h * 2 = 2 ^ (j + 1)) := by unfold Hid; rw [hh, Nat.pow_succ]
      clear hh
      go_wp2
      go_roundw
      case rel => exact ⟨j + 1, h * 2, by omega, by go_num, HN.out, by go_num, hb⟩
      case measure => simp [intOf]; omega
    · have hjd : j = d - 1 := by omega
      have hhH : h = H := by rw [hh, HH.out, hjd]
      subst hhH
      have q0 : ¬ ((j + 1 : Nat) : Int) < (d : Int) := by omega
      clear hh hjd
      go_wp2
      go_loopw [8] (fun x wr => ∃ k s : Nat, x = .int .u64 (s : Int) ∧ s < h ∧ s = (seed + k) % h ∧ (∀ j, j < k → ¬ Irr (oddOf d ((seed + j) % h))) ∧ Below w.heap.size w wr) (fun x _ => toGo h t (intOf x).toNat)
      case atStart => exact ⟨0, s0, rfl, hs0l, HS0.out, fun j h => by omega, hb⟩
      case round =>
        clear hb
        obtain ⟨k, s, rfl, hsl, hsk, hno, hbl⟩ := hrel
        have HNO := Lib.hid hno
        have HSK := Lib.hid hsk
        obtain ⟨m, hm⟩ : ∃ m, m = 2 * h + 2 * s + 1 := ⟨_, rfl⟩
        have HM : Hid (m = oddOf d s) := by unfold Hid; rw [HFO.out, hm]
        have em : 2 * (h : Int) + 2 * (s : Int) + 1 = (m : Int) := by omega
        have hml : m < 18446744073709551616 := by omega
        obtain ⟨s2, hs2⟩ : ∃ s2, s2 = (s + 1) % h := ⟨_, rfl⟩
        have hs2l : s2 < h := by rw [hs2]; exact Nat.mod_lt _ hHp
        have es2 : ((s : Int) + 1) % (h : Int) = (s2 : Int) := by rw [hs2]; simp
        have HS2 := Lib.hid hs2
        clear hno hsk hm hs2
        rcases hb : irrB m with _ | _
        · have HB := Lib.hid hb
          clear hb
          go_wp2_with fail
          refine (rirr_any m _ hml).mono ?_
          rw [HB.out]
          rintro e w1 ⟨rfl, hb2⟩
          go_wp2
          have hni : ¬ Irr (oddOf d s) := by rw [← HM.out]; exact not_irr_of HB.out
          go_roundw
          case rel =>
            refine ⟨k + 1, s2, by rw [es2], hs2l, by rw [HS2.out, HSK.out, step_mod], fun j hj => ?_, next hbl hb2⟩
            rcases (show j < k ∨ j = k by omega) with h | h
            · exact HNO.out j h
            · rw [h, ← HSK.out]; exact hni
          case measure =>
            have hst : s ≠ t := fun e => hni (by rw [e]; exact HTI.out)
            have := toGo_next ht hsl hst
            rw [← HS2.out] at this
            simpa [intOf, es2] using this
        · have HB := Lib.hid hb
          clear hb
          go_wp2_with fail
          refine (rirr_any m _ hml).mono ?_
          rw [HB.out]
          rintro e w1 ⟨rfl, hb2⟩
          go_wp2
          go_ret2
          have hk : k < h := steps_lt (s0 := seed) ht (fun j hj e => HNO.out j hj (by rw [e]; exact HTI.out))
          refine ⟨k, m, rfl, ⟨?_, ?_, irr_of HB.out, ?_⟩, next hbl hb2⟩
          · rw [← HH.out]; exact hk
          · rw [← HH.out, ← HSK.out]; exact HM.out
          · rw [← HH.out]; exact HNO.out

/-! The answers that the document fixes. -/
theorem aw_mul : mlV 2 2 7 = 3 := by
  have hd : Deg 7 2 := ⟨by decide, by decide⟩
  rw [mlV_eq hd (by decide)]
  refine (mod_end hd ⟨1, ?_⟩ (by decide)).symm
  have e1 : pm 2 2 = 4 := by have h := pm_two_left 1 2; rw [pm_one_left] at h; exact h
  rw [e1, pm_one_left]
  rfl
theorem aw_no : ¬ Irr 5 := by
  have h : pm 3 3 = 5 := by rw [pm_step]; simp [pm_one_left]
  rw [← h]
  exact prod_not_irr (by decide) (by decide)
theorem aw_yes : Irr 7 := (chk_irr (m := 7) (d := 2) (Ks := [1]) (by kernel_rfl)).2.2
theorem aw_find {k m : Nat} (h : FirstIrr 2 0 k m) : m = 7 := by
  refine firstIrr_uniq h (k' := 1) ⟨by decide, by decide, aw_yes, fun j hj => ?_⟩
  have : j = 0 := by omega
  subst this
  exact aw_no

theorem aw1 (w : World) : Calls Try.prog 18 #[.int .u64 2, .int .u64 2, .int .u64 7] w fun e w' => e = .returned (.tuple #[.int .u64 3, .int .i64 0]) ∧ w = w' := by
  have h := mul_any 2 2 7 w (by decide) (by decide) (by decide)
  rw [aw_mul, mdE_pos (by decide)] at h
  exact h
theorem aw2 (w : World) : Calls Try.prog 26 #[.int .u64 0, .int .i64 2] w fun e w' => e = .returned (.tuple #[.int .u64 7, .int .i64 0]) ∧ w = w' := by
  refine (find_ok 0 2 w (by decide) (by decide) (by decide)).mono ?_
  rintro e w' ⟨k, m, rfl, hf, rfl⟩
  rw [aw_find hf]
  exact ⟨rfl, rfl⟩
theorem aw3 (w : World) : Calls Try.prog 13 #[.int .u64 5, .int .u64 0] w fun e w' => e = .returned (.tuple #[.int .u64 0, .int .i64 6]) ∧ w = w' := mod_any 5 0 w (by decide) (by decide)
theorem aw4 (w : World) : Calls Try.prog 24 #[.int .u64 7] w fun e w' => e = .returned (.bool true) ∧ w = w' := by
  have h := irr_any 7 w (by decide)
  rw [irrB_true aw_yes] at h
  exact h
theorem aw5 (w : World) : Calls Try.prog 24 #[.int .u64 5] w fun e w' => e = .returned (.bool false) ∧ w = w' := by
  have h := irr_any 5 w (by decide)
  rw [irrB_false aw_no] at h
  exact h

set_option maxHeartbeats 1000000 in
theorem awake12_any (w : World) : Calls Try.prog 16 #[] w fun e w' => e = .returned (.bool true) ∧ w = w' := by
  have H1 := Lib.hid (aw1 w)
  have H2 := Lib.hid (aw2 w)
  have H3 := Lib.hid (aw3 w)
  have H4 := Lib.hid (aw4 w)
  have H5 := Lib.hid (aw5 w)
  have mk0 : True := trivial
  go_enter Try.func16, Try.ntmps16
  go_wp2_with (first
    | (go_at_call 18; refine H1.out.mono ?_; rintro e w' ⟨rfl, rfl⟩)
    | (go_at_call 26; refine H2.out.mono ?_; rintro e w' ⟨rfl, rfl⟩)
    | (go_at_call 13; refine H3.out.mono ?_; rintro e w' ⟨rfl, rfl⟩)
    | (have := mk0; go_at_call 24; refine H4.out.mono ?_; rintro e w' ⟨rfl, rfl⟩; clear mk0; have mk1 : True := trivial)
    | (have := mk1; go_at_call 24; refine H5.out.mono ?_; rintro e w' ⟨rfl, rfl⟩)
    | fail)
  go_ret
  exact ⟨rfl, rfl⟩

end Go.Proofs.Ytfgpaffdaeiloaa
