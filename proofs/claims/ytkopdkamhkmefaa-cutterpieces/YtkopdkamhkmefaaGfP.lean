/- Degree, Mod and Mul of package gf2, each by a contract. -/
import Derived.Test.YtkopdkamhkmefaaRows
import Derived.Test.YtkopdkamhkmefaaLG
import Derived.Test.YtkopdkamhkmefaaLA
import Derived.Test.YtkopdkamhkmefaaGfM
import Derived.Test.YtkopdkamhkmefaaGfL
import Derived.IntWalk
namespace Go.Proofs.Ytkopdkamhkmefaa
set_option maxRecDepth 100000
open Go Go.RowKit
set_option linter.unusedVariables false
set_option linter.unusedSimpArgs false

theorem len64_any (x : Nat) (w : World) (h : x < 18446744073709551616) :
    Calls Try.prog 32 #[.int .u64 x] w fun e w' => e = .returned (.int .i64 (nb2 x : Nat)) ∧ w = w' := by
  refine (len64_int x w (by omega) (by omega)).mono ?_
  rintro e w' ⟨rfl, rfl⟩
  exact ⟨rfl, rfl⟩

theorem degree_any (x : Nat) (w : World) (h : x < 18446744073709551616) :
    Calls Try.prog 20 #[.int .u64 x] w fun e w' => e = .returned (.int .i64 ((nb2 x : Int) - 1)) ∧ w = w' := by
  have h2 := nb2_le h
  have H := Lib.hid h
  clear h
  go_enter Try.func20, Try.ntmps20
  go_wp2_with fail
  refine (len64_any x w H.out).mono ?_
  rintro e w' ⟨rfl, rfl⟩
  go_wp2
  go_ret
  exact ⟨rfl, rfl⟩

theorem degree_to (x j : Nat) (w : World) (h : x < 18446744073709551616) (hj : nb2 x = j + 1) :
    Calls Try.prog 20 #[.int .u64 x] w fun e w' => e = .returned (.int .i64 (j : Nat)) ∧ w = w' := by
  refine (degree_any x w h).mono ?_
  rintro e w' ⟨rfl, rfl⟩
  exact ⟨ret_int (by rw [hj]; omega), rfl⟩
theorem degree_zero (w : World) :
    Calls Try.prog 20 #[.int .u64 0] w fun e w' => e = .returned (.int .i64 (-1)) ∧ w = w' := by
  refine (degree_any 0 w (by decide)).mono ?_
  rintro e w' ⟨rfl, rfl⟩
  exact ⟨rfl, rfl⟩

set_option maxHeartbeats 1000000 in
theorem mod_any (a m : Nat) (w : World) (ha : a < 18446744073709551616) (hm : m < 18446744073709551616) :
    Calls Try.prog 39 #[.int .u64 a, .int .u64 m] w fun e w' => e = .returned (.tuple #[.int .u64 (mdV a m : Nat), .int .i64 (mdE m)]) ∧ w = w' := by
  by_cases h0 : m = 0
  · subst h0
    have hz : mdV a 0 = 0 := rfl
    have he : mdE 0 = 6 := rfl
    rw [hz, he]
    go_enter Try.func39, Try.ntmps39
    go_wp2
    refine wp_scope_back 0 (fun _ _ => False) (fun _ _ => 0) rfl ?first ?pass
    case first =>
      intro hgo
      go_wp2
      try simp only [Exit.jump]
      go_ret2
      exact ⟨rfl, rfl⟩
    case pass => intro a' w' h; exact h.elim
  · have hpos : 0 < m := by omega
    rw [mdE_pos hpos]
    obtain ⟨d, hd, h63, hnb, hall⟩ := mdV_deg (a := a) hpos hm
    rw [hall]
    have HD := Lib.hid hd
    have HM := Lib.hid hm
    obtain ⟨V, hV⟩ : ∃ V, V = pr m d a := ⟨_, rfl⟩
    rw [← hV]
    have HV := Lib.hid hV
    have HNB := Lib.hid hnb
    have q0 : ((m : Int) == 0) = false := by simp; omega
    clear hV hd hnb hall
    go_enter Try.func39, Try.ntmps39
    go_wp2
    refine wp_scope_back 0 (fun a' w' => ∃ (c : Nat) (u2 u3 u4 u5 u6 u7 u8 u9 u10 u11 u12 u13 u14 u15 u16 u17 u18 u19 u20 u21 : Value), a' = { tmps := #[.int .u64 (c : Int), .int .u64 (m : Int), u2, u3, u4, u5, u6, u7, u8, u9, u10, u11, u12, u13, u14, u15, u16, u17, u18, u19, u20, u21], defers := [] } ∧ c < 18446744073709551616 ∧ Cg m c a ∧ w' = w) (fun a' _ => (intOf (a'.tmps.getD 0 undef)).toNat) rfl ?first ?pass
    case first =>
      intro hgo
      go_wp2
      go_step3
      rename_i hKK
      refine hKK _ _ (hgo _ _ ?_)
      exact ⟨a, _, _, _, _, _, _, _, _, _, _, _, _, _, _, _, _, _, _, _, _, rfl, ha, Cg.refl _ _, rfl⟩
    case pass =>
      rintro a' w' ⟨c, u2, u3, u4, u5, u6, u7, u8, u9, u10, u11, u12, u13, u14, u15, u16, u17, u18, u19, u20, u21, rfl, hc, hcg, rfl⟩
      rcases Nat.eq_zero_or_pos c with hc0 | hc0
      · subst hc0
        have HE : Hid (V = 0) := by unfold Hid; rw [HV.out, ← mod_end HD.out hcg (Nat.two_pow_pos _)]
        have q3 : ¬ (0 : Int) ≤ -1 - (d : Int) := by omega
        go_wp2_with fail
        refine (degree_zero _).mono ?_
        rintro e w1 ⟨rfl, rfl⟩
        go_wp2_with fail
        refine (degree_to m d _ HM.out HNB.out).mono ?_
        rintro e w1 ⟨rfl, rfl⟩
        go_wp2
        try simp only [Exit.jump]
        go_ret2
        exact ⟨by rw [HE.out]; rfl, rfl⟩
      · obtain ⟨hdc, hn1, hn64⟩ := deg_nb2 hc0 hc
        obtain ⟨j, hj⟩ : ∃ j, j = nb2 c - 1 := ⟨_, rfl⟩
        have hjn : nb2 c = j + 1 := by omega
        rw [← hj] at hdc
        have HJ := Lib.hid hjn
        have hj63 : j ≤ 63 := by omega
        have HCG := Lib.hid hcg
        have HDC := Lib.hid hdc
        clear hn1 hn64 hj hjn hcg hdc
        by_cases hle : d ≤ j
        · obtain ⟨k, hk⟩ : ∃ k, k = j - d := ⟨_, rfl⟩
          obtain ⟨hlt, hcg2⟩ := mod_down HDC.out HD.out hle
          rw [← hk] at hlt hcg2
          have hms : m * 2 ^ k < 18446744073709551616 := by
            have := (HD.out.shl k).2
            rw [Nat.mul_comm] at this
            exact pow_lt64 this (by omega)
          have ek : (j : Int) - (d : Int) = (k : Int) := by omega
          have hk63 : k ≤ 63 := by omega
          obtain ⟨t, ht⟩ : ∃ t, t = m * 2 ^ k := ⟨_, rfl⟩
          rw [← ht] at hlt hcg2 hms
          have et : (m : Int) * 2 ^ k % 18446744073709551616 = (t : Int) := by
            have : ((m : Int) * 2 ^ k) = ((m * 2 ^ k : Nat) : Int) := by simp
            rw [this, ← ht]; omega
          obtain ⟨c2, hc2⟩ : ∃ c2, c2 = c ^^^ t := ⟨_, rfl⟩
          rw [← hc2] at hlt hcg2
          have ec2 : bits BinOp.xor IntKind.u64 (c : Int) (t : Int) = (c2 : Int) := by rw [hc2]; exact u64_xor_nat _ _ (by omega) (by omega)
          have hcc : c2 < c := Nat.lt_of_lt_of_le hlt HDC.out.1
          have HCG2 := Lib.hid hcg2
          clear hk hle hlt hcg2 ht hc2
          go_wp2_with fail
          refine (degree_to c j _ hc HJ.out).mono ?_
          rintro e w1 ⟨rfl, rfl⟩
          go_wp2_with fail
          refine (degree_to m d _ HM.out HNB.out).mono ?_
          rintro e w1 ⟨rfl, rfl⟩
          go_wp2
          go_step3
          have ew : IntKind.u64.wrap ((m : Int) * 2 ^ k) = (t : Int) := by rw [← et]; simp [IntKind.wrap, IntKind.bits, IntKind.signed]
          rw [ew, ec2]
          refine ⟨rfl, ⟨c2, _, _, _, _, _, _, _, _, _, _, _, _, _, _, _, _, _, _, _, _, rfl, by omega, HCG2.out.trans HCG.out, rfl⟩, ?_⟩
          simp [intOf]; omega
        · have q3 : ¬ (0 : Int) ≤ (j : Int) - (d : Int) := by omega
          have HE : Hid (V = c) := by
            unfold Hid
            rw [HV.out, ← mod_end HD.out HCG.out]
            exact Nat.lt_of_lt_of_le HDC.out.2 (Nat.pow_le_pow_right (by decide) (by omega))
          go_wp2_with fail
          refine (degree_to c j _ hc HJ.out).mono ?_
          rintro e w1 ⟨rfl, rfl⟩
          go_wp2_with fail
          refine (degree_to m d _ HM.out HNB.out).mono ?_
          rintro e w1 ⟨rfl, rfl⟩
          go_wp2
          try simp only [Exit.jump]
          go_ret2
          exact ⟨by rw [HE.out]; rfl, rfl⟩

theorem mod_to (a m d V : Nat) (w : World) (ha : a < 18446744073709551616) (hm : m < 18446744073709551616) (hd : Deg m d) (hV : V = pr m d a) :
    Calls Try.prog 39 #[.int .u64 a, .int .u64 m] w fun e w' => e = .returned (.tuple #[.int .u64 (V : Nat), .int .i64 0]) ∧ w = w' := by
  refine (mod_any a m w ha hm).mono ?_
  rintro e w' ⟨rfl, rfl⟩
  rw [mdV_eq hd hm, mdE_pos hd.pos, hV]
  exact ⟨rfl, rfl⟩

set_option maxHeartbeats 1000000 in
theorem mul_any (a b m : Nat) (w : World) (ha : a < 18446744073709551616) (hb : b < 18446744073709551616) (hm : m < 18446744073709551616) :
    Calls Try.prog 37 #[.int .u64 a, .int .u64 b, .int .u64 m] w fun e w' => e = .returned (.tuple #[.int .u64 (mlV a b m : Nat), .int .i64 (mdE m)]) ∧ w = w' := by
  by_cases h0 : m = 0
  · subst h0
    have hz : mlV a b 0 = 0 := rfl
    have he : mdE 0 = 6 := rfl
    have hz2 : mdV a 0 = 0 := rfl
    rw [hz, he]
    have HC := Lib.hid (mod_any a 0)
    go_enter Try.func37, Try.ntmps37
    go_wp2_with fail
    refine (HC.out _ ha (by decide)).mono ?_
    rintro e w1 ⟨rfl, rfl⟩
    rw [hz2, he]
    go_wp2
    go_ret2
    exact ⟨rfl, rfl⟩
  · have hpos : 0 < m := by omega
    rw [mdE_pos hpos]
    obtain ⟨d, hd, h63, hnb, hall⟩ := mdV_deg (a := a) hpos hm
    rw [mlV_eq hd hm]
    have HD := Lib.hid hd
    have HM := Lib.hid hm
    have HNB := Lib.hid hnb
    obtain ⟨V, hV⟩ : ∃ V, V = pr m d (pm a b) := ⟨_, rfl⟩
    rw [← hV]
    have HV := Lib.hid hV
    obtain ⟨A, hA⟩ : ∃ A, A = pr m d a := ⟨_, rfl⟩
    have HA := Lib.hid hA
    obtain ⟨n, hn⟩ : ∃ n, n = nb2 b := ⟨_, rfl⟩
    have hn64 : n ≤ 64 := by rw [hn]; exact nb2_le hb
    have HN := Lib.hid hn
    have en : (n : Int) - 1 + 1 = (n : Int) := by omega
    clear hV hd hnb hall hA hn
    go_enter Try.func37, Try.ntmps37
    go_wp2_with fail
    refine (mod_to a m d A _ ha hm HD.out HA.out).mono ?_
    rintro e w1 ⟨rfl, rfl⟩
    go_wp2_with fail
    refine (degree_any b _ hb).mono ?_
    rintro e w1 ⟨rfl, rfl⟩
    rw [← HN.out]
    go_wp2
    go_loop [0, 9, 23] (fun x y i => ∃ k c p : Nat, k ≤ n ∧ i = .int .i64 k ∧ x = .int .u64 (c : Int) ∧ y = .int .u64 (p : Int) ∧ c = pr m d (pm (2 ^ k) a) ∧ p = pr m d (pm (b % 2 ^ k) a)) (fun _ _ i => n - (intOf i).toNat)
    case atStart => exact ⟨0, A, 0, Nat.zero_le _, rfl, rfl, rfl, by rw [Nat.pow_zero, pm_one_left, HA.out], by rw [Nat.pow_zero, Nat.mod_one, pm_zero_left, pr_zero]⟩
    case round =>
      obtain ⟨k, c, p, hk, rfl, rfl, rfl, hc, hp⟩ := hrel
      by_cases hlt : k < n
      · have hcl : c < 9223372036854775808 := by
          rw [hc]
          exact Nat.lt_of_lt_of_le (pr_lt HD.out _) (Nat.pow_le_pow_right (n := 2) (by decide) h63)
        have hpl : p < 9223372036854775808 := by
          rw [hp]
          exact Nat.lt_of_lt_of_le (pr_lt HD.out _) (Nat.pow_le_pow_right (n := 2) (by decide) h63)
        have HST := Lib.hid (mul_step HD.out a b k p hp)
        rw [← hc] at HST
        have HNX := Lib.hid (mul_next HD.out a k)
        rw [← hc] at HNX
        clear hc hp
        obtain ⟨t, ht⟩ : ∃ t, t = b / 2 ^ k := ⟨_, rfl⟩
        rw [← ht] at HST
        have et : (b : Int) / 2 ^ k = (t : Int) := by
          rw [ht]; simp
        have htl : t < 18446744073709551616 := by rw [ht]; exact Nat.lt_of_le_of_lt (Nat.div_le_self _ _) hb
        clear ht
        obtain ⟨q, hq⟩ : ∃ q, q = t % 2 := ⟨_, rfl⟩
        have e1 : bits BinOp.and IntKind.u64 (t : Int) 1 = (q : Int) := by
          have := u64_and_nat t 1 htl (by decide)
          rw [Nat.and_one_is_mod, ← hq] at this
          exact this
        rw [← hq] at HST
        have hq2 : q < 2 := by omega
        clear hq
        obtain ⟨c2, hc2⟩ : ∃ c2, c2 = 2 * c := ⟨_, rfl⟩
        have ec2 : (c : Int) * 2 = (c2 : Int) := by omega
        have hc2l : c2 < 18446744073709551616 := by omega
        have hkz : (k : Int) < 64 := by omega
        rw [← hc2] at HNX
        obtain ⟨c3, hc3⟩ : ∃ c3, c3 = pr m d (pm (2 ^ (k + 1)) a) := ⟨_, rfl⟩
        rw [← hc3] at HNX
        have HC3 := Lib.hid hc3
        obtain ⟨p2, hp2⟩ : ∃ p2, p2 = p ^^^ c := ⟨_, rfl⟩
        have ep2 : bits BinOp.xor IntKind.u64 (p : Int) (c : Int) = (p2 : Int) := by rw [hp2]; exact u64_xor_nat _ _ (by omega) (by omega)
        rw [← hp2] at HST
        clear hc2 hc3 hp2
        rcases (show q = 0 ∨ q = 1 by omega) with rfl | rfl
        · go_wp2_with fail
          refine (mod_to c2 m d c3 _ hc2l HM.out HD.out HNX.out.symm).mono ?_
          rintro e w1 ⟨rfl, rfl⟩
          go_wp2
          go_round
          case rel =>
            have h1 := HST.out
            rw [if_neg (by decide)] at h1
            exact ⟨k + 1, c3, p, by omega, by go_num, rfl, rfl, HC3.out, h1⟩
          case measure => simp [intOf]; omega
        · go_wp2_with fail
          refine (mod_to c2 m d c3 _ hc2l HM.out HD.out HNX.out.symm).mono ?_
          rintro e w1 ⟨rfl, rfl⟩
          go_wp2
          go_round
          case rel =>
            have h1 := HST.out
            rw [if_pos (by decide)] at h1
            exact ⟨k + 1, c3, p2, by omega, by go_num, rfl, rfl, HC3.out, h1⟩
          case measure => simp [intOf]; omega
      · have hkn : k = n := by omega
        have HE : Hid (V = p) := by unfold Hid; rw [HV.out, hp, hkn, HN.out, mul_end HD.out a b hb]
        clear hc hp hkn
        go_wp2
        go_ret2
        exact ⟨by rw [HE.out]; rfl, rfl⟩

end Go.Proofs.Ytkopdkamhkmefaa
