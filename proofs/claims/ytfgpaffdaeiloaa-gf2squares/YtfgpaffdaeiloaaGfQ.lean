/- Square, Gcd, Irreducible and Find of package gf2, each by a contract. -/
import Derived.Test.YtfgpaffdaeiloaaGfP
namespace Go.Proofs.Ytfgpaffdaeiloaa
set_option maxRecDepth 100000
open Go Go.RowKit
set_option linter.unusedVariables false
set_option linter.unusedSimpArgs false

theorem square_bad (a m : Nat) (n : Int) (w : World) (h : m = 0 ∨ n < 0 ∨ 64 < n) :
    Calls Try.prog 20 #[.int .u64 a, .int .u64 m, .int .i64 n] w fun e w' => e = .returned (.tuple #[.int .u64 0, .int .i64 6]) ∧ w = w' := by
  by_cases h0 : m = 0
  · subst h0
    clear h
    go_enter Try.func20, Try.ntmps20
    go_wp2
    go_ret2
    exact ⟨rfl, rfl⟩
  · have q0 : ((m : Int) == 0) = false := by simp; omega
    rcases (show n < 0 ∨ ¬ n < 0 ∧ 64 < n by omega) with h1 | ⟨h1, h2⟩
    all_goals
      clear h
      go_enter Try.func20, Try.ntmps20
      go_wp2
      go_ret2
      exact ⟨rfl, rfl⟩

theorem mul_to (a b m V : Nat) (w : World) (ha : a < 18446744073709551616) (hb : b < 18446744073709551616) (hm : m < 18446744073709551616) (h0 : 0 < m) (hV : V = mlV a b m) :
    Calls Try.prog 18 #[.int .u64 a, .int .u64 b, .int .u64 m] w fun e w' => e = .returned (.tuple #[.int .u64 (V : Nat), .int .i64 0]) ∧ w = w' := by
  refine (mul_any a b m w ha hb hm).mono ?_
  rintro e w' ⟨rfl, rfl⟩
  rw [mdE_pos h0, hV]
  exact ⟨rfl, rfl⟩
theorem mod_at (a m V : Nat) (w : World) (ha : a < 18446744073709551616) (hm : m < 18446744073709551616) (h0 : 0 < m) (hV : V = mdV a m) :
    Calls Try.prog 13 #[.int .u64 a, .int .u64 m] w fun e w' => e = .returned (.tuple #[.int .u64 (V : Nat), .int .i64 0]) ∧ w = w' := by
  refine (mod_any a m w ha hm).mono ?_
  rintro e w' ⟨rfl, rfl⟩
  rw [mdE_pos h0, hV]
  exact ⟨rfl, rfl⟩

set_option maxHeartbeats 1000000 in
theorem square_ok (a m n : Nat) (w : World) (ha : a < 18446744073709551616) (hm : m < 18446744073709551616) (h0 : 0 < m) (hn : n ≤ 64) :
    Calls Try.prog 20 #[.int .u64 a, .int .u64 m, .int .i64 (n : Nat)] w fun e w' => e = .returned (.tuple #[.int .u64 (sqV a m n : Nat), .int .i64 0]) ∧ w = w' := by
  have q0 : ((m : Int) == 0) = false := by simp; omega
  obtain ⟨V, hV⟩ : ∃ V, V = sqV a m n := ⟨_, rfl⟩
  rw [← hV]
  have HV := Lib.hid hV
  obtain ⟨A, hA⟩ : ∃ A, A = mdV a m := ⟨_, rfl⟩
  have HA := Lib.hid hA
  clear hV hA
  go_enter Try.func20, Try.ntmps20
  go_wp2_with fail
  refine (mod_at a m A _ ha hm h0 HA.out).mono ?_
  rintro e w1 ⟨rfl, rfl⟩
  go_wp2
  go_loop [0, 25] (fun x i => ∃ k c : Nat, k ≤ n ∧ i = .int .i64 k ∧ x = .int .u64 (c : Int) ∧ c = sqV a m k) (fun _ i => n - (intOf i).toNat)
  case atStart => exact ⟨0, A, Nat.zero_le _, rfl, rfl, HA.out⟩
  case round =>
    obtain ⟨k, c, hk, rfl, rfl, hc⟩ := hrel
    by_cases hlt : k < n
    · have hcl : c < 18446744073709551616 := by rw [hc]; exact sqV_lt _ _ hm
      have HNX := Lib.hid (sqV_next a m k hm)
      rw [← hc] at HNX
      obtain ⟨c2, hc2⟩ : ∃ c2, c2 = sqV a m (k + 1) := ⟨_, rfl⟩
      rw [← hc2] at HNX
      have HC2 := Lib.hid hc2
      clear hc hc2
      go_wp2_with fail
      refine (mul_to c c m c2 _ hcl hcl hm h0 HNX.out.symm).mono ?_
      rintro e w1 ⟨rfl, rfl⟩
      go_wp2
      go_round
      case rel => exact ⟨k + 1, c2, by omega, by go_num, rfl, HC2.out⟩
      case measure => simp [intOf]; omega
    · have hkn : k = n := by omega
      have HE : Hid (V = c) := by unfold Hid; rw [HV.out, hc, hkn]
      clear hc hkn
      go_wp2
      go_ret2
      exact ⟨by rw [HE.out]; rfl, rfl⟩

set_option maxHeartbeats 1000000 in
theorem gcd_any (a b : Nat) (w : World) (ha : a < 18446744073709551616) (hb : b < 18446744073709551616) :
    Calls Try.prog 22 #[.int .u64 a, .int .u64 b] w fun e w' => ∃ g : Nat, e = .returned (.int .u64 (g : Nat)) ∧ g < 18446744073709551616 ∧ IsGcd a b g ∧ w = w' := by
  have HA := Lib.hid ha
  have HB := Lib.hid hb
  clear ha hb
  go_enter Try.func22, Try.ntmps22
  go_wp2
  go_loop [0, 1] (fun x y => ∃ p q : Nat, x = .int .u64 (p : Int) ∧ y = .int .u64 (q : Int) ∧ p < 18446744073709551616 ∧ q < 18446744073709551616 ∧ ∀ g, IsGcd p q g → IsGcd a b g) (fun _ y => (intOf y).toNat)
  case atStart => exact ⟨a, b, rfl, rfl, HA.out, HB.out, fun g h => h⟩
  case round =>
    obtain ⟨p, q, rfl, rfl, hp, hq, hg⟩ := hrel
    have HG := Lib.hid hg
    clear hg
    rcases Nat.eq_zero_or_pos q with h0 | h0
    · subst h0
      go_wp2
      go_ret
      exact ⟨p, rfl, hp, HG.out p (isGcd_zero p), rfl⟩
    · obtain ⟨d, hd, h63, hnb, hall⟩ := mdV_deg (a := p) h0 hq
      obtain ⟨r, hr⟩ : ∃ r, r = pr q d p := ⟨_, rfl⟩
      have hrl : r < q := by rw [hr]; exact Nat.lt_of_lt_of_le (pr_lt hd p) hd.1
      have HR := Lib.hid hr
      have HD := Lib.hid hd
      have q0 : ((q : Int) != 0) = true := by simp; omega
      clear hd hnb hall hr
      go_wp2_with fail
      refine (mod_to p q d r _ hp hq HD.out HR.out).mono ?_
      rintro e w1 ⟨rfl, rfl⟩
      go_wp2
      go_round
      case rel => exact ⟨q, r, rfl, rfl, hq, by omega, fun g h => HG.out g (by rw [HR.out] at h; exact h.step HD.out)⟩
      case measure => simp [intOf]; omega

set_option maxHeartbeats 1000000 in
theorem irr_any (m : Nat) (w : World) (hm : m < 18446744073709551616) :
    Calls Try.prog 24 #[.int .u64 m] w fun e w' => e = .returned (.bool (irrB m)) ∧ w = w' := by
  have hn := nb2_le hm
  obtain ⟨n, hnn⟩ : ∃ n, n = nb2 m := ⟨_, rfl⟩
  rw [← hnn] at hn
  by_cases hs : n ≤ 1
  · rw [irrB_small (by omega) hm]
    have q1 : (n : Int) - 1 < 1 := by omega
    go_enter Try.func24, Try.ntmps24
    go_wp2_with fail
    refine (degree_any m _ hm).mono ?_
    rintro e w1 ⟨rfl, rfl⟩
    rw [← hnn]
    go_wp2
    go_ret
    exact ⟨rfl, rfl⟩
  · have h0 : 0 < m := by
      rcases Nat.eq_zero_or_pos m with h | h
      · subst h; rw [nb2_zero] at hnn; omega
      · exact h
    obtain ⟨hd, _, _⟩ := deg_nb2 h0 hm
    obtain ⟨d, hdd⟩ : ∃ d, d = n - 1 := ⟨_, rfl⟩
    rw [← hnn, ← hdd] at hd
    have hjn : nb2 m = d + 1 := by omega
    have hd1 : 1 ≤ d := by omega
    have hd63 : d ≤ 63 := by omega
    have HD := Lib.hid hd
    have HJ := Lib.hid hjn
    obtain ⟨r, hr⟩ : ∃ r, r = irrB m := ⟨_, rfl⟩
    rw [← hr]
    have HR := Lib.hid hr
    obtain ⟨h, hh⟩ : ∃ h, h = d / 2 := ⟨_, rfl⟩
    have hh1 : 2 * h ≤ d := by omega
    have hh2 : d < 2 * (h + 1) := by omega
    have eh : (d : Int).tdiv 2 = (h : Int) := by rw [Int.tdiv_eq_ediv_of_nonneg (by omega)]; omega
    have eh2 : (d : Int) / 2 = (h : Int) := by omega
    have q1 : ¬ (d : Int) < 1 := by omega
    clear hd hjn hr hh hnn hs hdd hn
    go_enter Try.func24, Try.ntmps24
    go_wp2_with fail
    refine (degree_to m d _ hm HJ.out).mono ?_
    rintro e w1 ⟨rfl, rfl⟩
    go_wp2_with fail
    refine (degree_to m d _ hm HJ.out).mono ?_
    rintro e w1 ⟨rfl, rfl⟩
    go_wp2
    go_loop [3, 10] (fun x i => ∃ k p : Nat, k ≤ h ∧ i = .int .i64 k ∧ x = .int .u64 (p : Int) ∧ p < 18446744073709551616 ∧ Cg m p (sqn k 2) ∧ BenTo m k) (fun _ i => h - (intOf i).toNat)
    case atStart => exact ⟨0, 2, Nat.zero_le _, rfl, rfl, by decide, Cg.refl _ _, fun i h1 h2 => by omega⟩
    case round =>
      obtain ⟨k, p, hk, rfl, rfl, hp, hcg, hben⟩ := hrel
      by_cases hlt : k < h
      · have HCG := Lib.hid (ben_cg HD.out hm hcg)
        have HB := Lib.hid hben
        obtain ⟨p2, hp2⟩ : ∃ p2, p2 = sqV p m 1 := ⟨_, rfl⟩
        rw [← hp2] at HCG
        have hp2l : p2 < 18446744073709551616 := by rw [hp2]; exact sqV_lt _ _ hm
        have HP2 := Lib.hid hp2
        obtain ⟨p3, hp3⟩ : ∃ p3, p3 = p2 ^^^ 2 := ⟨_, rfl⟩
        have hp3l : p3 < 18446744073709551616 := by rw [hp3]; exact Nat.xor_lt_two_pow (n := 64) hp2l (by decide)
        have ep3 : bits BinOp.xor IntKind.u64 (p2 : Int) 2 = (p3 : Int) := by rw [hp3]; exact u64_xor_nat _ 2 hp2l (by decide)
        have HP3 := Lib.hid hp3
        clear hcg hben hp2 hp3
        go_wp2_with fail
        refine (square_ok p m 1 _ hp hm h0 (by decide)).mono ?_
        rintro e w1 ⟨rfl, rfl⟩
        rw [← HP2.out]
        go_wp2_with fail
        refine (gcd_any p3 m _ hp3l hm).mono ?_
        rintro e w1 ⟨g, rfl, hgl, hg, rfl⟩
        rw [HP3.out] at hg
        have HG := Lib.hid hg
        clear hg
        by_cases hg1 : g = 1
        · subst hg1
          go_wp2
          go_round
          case rel => exact ⟨k + 1, p2, by omega, by go_num, rfl, hp2l, HCG.out, ben_yes HCG.out HG.out rfl HB.out⟩
          case measure => simp [intOf]; omega
        · have HF : Hid (r = false) := by unfold Hid; rw [HR.out]; exact ben_no HD.out hd1 (by omega) HCG.out HG.out hg1
          have qg : ((g : Int) != 1) = true := by simp; omega
          go_wp2
          go_ret
          exact ⟨ret_bool (by rw [HF.out]), rfl⟩
      · have hkn : k = h := by omega
        subst hkn
        have HF : Hid (r = true) := by unfold Hid; rw [HR.out]; exact ben_end HD.out hd1 hh2 hben
        clear hcg hben
        go_wp2
        go_ret
        exact ⟨ret_bool (by rw [HF.out]), rfl⟩

theorem find_bad (seed : Nat) (d : Int) (w : World) (h : d < 2 ∨ 53 < d) :
    Calls Try.prog 26 #[.int .u64 seed, .int .i64 d] w fun e w' => e = .returned (.tuple #[.int .u64 0, .int .i64 6]) ∧ w = w' := by
  rcases (show d < 2 ∨ ¬ d < 2 ∧ 53 < d by omega) with h1 | ⟨h1, h2⟩
  all_goals
    clear h
    go_enter Try.func26, Try.ntmps26
    go_wp2
    go_ret2
    exact ⟨rfl, rfl⟩

set_option maxHeartbeats 1000000 in
theorem find_ok (seed d : Nat) (w : World) (hs : seed < 18446744073709551616) (h2 : 2 ≤ d) (h53 : d ≤ 53) :
    Calls Try.prog 26 #[.int .u64 seed, .int .i64 d] w fun e w' => ∃ k m : Nat, e = .returned (.tuple #[.int .u64 (m : Nat), .int .i64 0]) ∧ FirstIrr d seed k m ∧ w = w' := by
  obtain ⟨t, ht, hti⟩ := odd_some h2 h53
  obtain ⟨H, hH⟩ : ∃ H, H = 2 ^ (d - 1) := ⟨_, rfl⟩
  have hHp : 0 < H := by rw [hH]; exact Nat.two_pow_pos _
  have hd2 : 2 ^ d = 2 * H := by rw [hH, ← Nat.pow_succ']; congr 1; omega
  have hHl : H ≤ 4503599627370496 := by rw [hH]; exact Nat.pow_le_pow_right (n := 2) (by decide) (show d - 1 ≤ 52 by omega)
  rw [← hH] at ht
  have HH := Lib.hid hH
  have HTI := Lib.hid hti
  obtain ⟨F, hF⟩ : ∃ F, F = 2 * H + 1 := ⟨_, rfl⟩
  have hFo : ∀ x, oddOf d x = F + 2 * x := fun x => by unfold oddOf; rw [hd2, hF]
  have HFO := Lib.hid hFo
  obtain ⟨s0, hs0⟩ : ∃ s0, s0 = seed % H := ⟨_, rfl⟩
  have hs0l : s0 < H := by rw [hs0]; exact Nat.mod_lt _ hHp
  have es0 : (seed : Int).tmod (H : Int) = (s0 : Int) := by rw [hs0, Int.tmod_eq_emod_of_nonneg (by omega)]; simp
  have es1 : (seed : Int) % (H : Int) = (s0 : Int) := by rw [hs0]; simp
  have HS0 := Lib.hid hs0
  obtain ⟨H2, hH2⟩ : ∃ H2, H2 = 2 * H := ⟨_, rfl⟩
  have ew1 : IntKind.u64.wrap (2 ^ d) = (H2 : Int) := by
    have : (2 : Int) ^ d = ((2 ^ d : Nat) : Int) := by simp
    rw [this, hd2]; simp [IntKind.wrap, IntKind.bits, IntKind.signed]; omega
  have ew2 : IntKind.u64.wrap (2 ^ (d - 1)) = (H : Int) := by
    have : (2 : Int) ^ (d - 1) = ((2 ^ (d - 1) : Nat) : Int) := by simp
    rw [this, ← hH]; simp [IntKind.wrap, IntKind.bits, IntKind.signed]; omega
  have ed : (d : Int) - 1 = ((d - 1 : Nat) : Int) := by omega
  have eF : (H2 : Int) + 1 = (F : Int) := by omega
  have hFl : F ≤ 9007199254740993 := by omega
  have hH0 : ((H : Int) == 0) = false := by simp; omega
  clear hti hH hd2 hFo hs0 hF hH2
  go_enter Try.func26, Try.ntmps26
  go_wp2
  go_loop [8] (fun x => ∃ k s : Nat, x = .int .u64 (s : Int) ∧ s < H ∧ s = (seed + k) % H ∧ ∀ j, j < k → ¬ Irr (oddOf d ((seed + j) % H))) (fun x => toGo H t (intOf x).toNat)
  case atStart => exact ⟨0, s0, rfl, hs0l, HS0.out, fun j h => by omega⟩
  case round =>
    obtain ⟨k, s, rfl, hsl, hsk, hno⟩ := hrel
    have HNO := Lib.hid hno
    have HSK := Lib.hid hsk
    obtain ⟨m, hm⟩ : ∃ m, m = F + 2 * s := ⟨_, rfl⟩
    have HM : Hid (m = oddOf d s) := by unfold Hid; rw [HFO.out, hm]
    have em : (F : Int) + 2 * (s : Int) = (m : Int) := by omega
    have hml : m < 18446744073709551616 := by omega
    obtain ⟨s2, hs2⟩ : ∃ s2, s2 = (s + 1) % H := ⟨_, rfl⟩
    have hs2l : s2 < H := by rw [hs2]; exact Nat.mod_lt _ hHp
    have es2 : ((s : Int) + 1) % (H : Int) = (s2 : Int) := by rw [hs2]; simp
    have HS2 := Lib.hid hs2
    clear hno hsk hm hs2
    rcases hb : irrB m with _ | _
    · have HB := Lib.hid hb
      clear hb
      go_wp2_with fail
      refine (irr_any m _ hml).mono ?_
      rintro e w1 ⟨rfl, rfl⟩
      rw [HB.out]
      go_wp2
      have hni : ¬ Irr (oddOf d s) := by rw [← HM.out]; exact not_irr_of HB.out
      go_round
      case rel =>
        refine ⟨k + 1, s2, by rw [es2], hs2l, by rw [HS2.out, HSK.out, step_mod], fun j hj => ?_⟩
        rcases (show j < k ∨ j = k by omega) with h | h
        · exact HNO.out j h
        · rw [h, ← HSK.out]; exact hni
      case measure =>
        have hst : s ≠ t := fun e => hni (by rw [e]; exact HTI.out)
        have := toGo_next ht hsl hst
        rw [← HS2.out] at this
        simpa [intOf, es2] using this
    · have HB := Lib.hid hb
      clear hb
      go_wp2_with fail
      refine (irr_any m _ hml).mono ?_
      rintro e w1 ⟨rfl, rfl⟩
      rw [HB.out]
      go_wp2
      go_ret2
      have hk : k < H := steps_lt (s0 := seed) ht (fun j hj e => HNO.out j hj (by rw [e]; exact HTI.out))
      refine ⟨k, m, rfl, ⟨?_, ?_, irr_of HB.out, ?_⟩, rfl⟩
      · rw [← HH.out]; exact hk
      · rw [← HH.out, ← HSK.out]; exact HM.out
      · rw [← HH.out]; exact HNO.out

end Go.Proofs.Ytfgpaffdaeiloaa
