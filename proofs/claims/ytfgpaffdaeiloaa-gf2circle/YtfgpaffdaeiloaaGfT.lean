/- Mod, Mul, Square, Divides of the reference. -/
import Derived.Test.YtfgpaffdaeiloaaGfS
namespace Go.Proofs.Ytfgpaffdaeiloaa
set_option maxRecDepth 100000
open Go Go.RowKit
set_option linter.unusedVariables false
set_option linter.unusedSimpArgs false

set_option maxHeartbeats 1000000 in
theorem rmod_any (a m : Nat) (w : World) (ha : a < 18446744073709551616) (hm : m < 18446744073709551616) (h0 : 0 < m) :
    Calls Try.prog 17 #[.int .u64 a, .int .u64 m] w fun e w' => e = .returned (.int .u64 (mdV a m : Nat)) ∧ Below w.heap.size w w' := by
  obtain ⟨d, hd, h63, hnb, hall⟩ := mdV_deg (a := a) h0 hm
  have hna := nb2_le ha
  obtain ⟨V, hV⟩ : ∃ V, V = mdV a m := ⟨_, rfl⟩
  rw [← hV]
  have HV : Hid (V = pr (bv 2 (bts m)) d (bv 2 (bts a))) := by unfold Hid; rw [bts_bv, bts_bv, hV, hall]
  have HD : Hid (Deg (bv 2 (bts m)) d) := by unfold Hid; rw [bts_bv]; exact hd
  obtain ⟨na, hnna⟩ : ∃ n, n = nb2 a := ⟨_, rfl⟩
  have HC1 := Lib.hid (coef_any a)
  have HC2 := Lib.hid (coef_any m)
  rw [← hnna] at HC1 hna
  rw [hnb] at HC2
  clear hV hd hall hnna hnb
  go_enter Try.func17, Try.ntmps17
  go_wp2_with fail
  refine (HC1.out w ha).mono ?_
  rintro e w1 ⟨A1, c1, rfl, o1, b1⟩
  go_wp2_with fail
  refine (HC2.out w1 hm).mono ?_
  rintro e w2 ⟨A2, c2, rfl, o2, b2⟩
  go_wp2_with fail
  refine (rest_any (bts a) (bts m) d V w2 _ _ A1 A2 na (d + 1) c1 c2 ((Sl.own o1).below b2) (own_none o1) (Sl.own o2) (bts_bt a) (bts_bt m) (b2.size) (Nat.le_refl _) (by omega) rfl HD.out h63 HV.out).mono ?_
  rintro e w3 ⟨z, A3, n3, c3, rfl, hn3, hz3, hv3, s3, b3⟩
  go_wp2_with fail
  refine (of12_any z w3 _ A3 n3 c3 s3 hz3 (by omega)).mono ?_
  rintro e w4 ⟨rfl, rfl⟩
  rw [hv3]
  go_wp2
  go_ret
  exact ⟨rfl, next (next b1 b2) b3⟩

theorem made_is {w w1 : World} {n : Nat} (hown : w1.ownsRow w.heap.size 3 1 (.slice (some ⟨w.heap.size, 0, none⟩) n n) n (madeCells (Value.int .i64 0).cells (n * 1)).toList) (hgrow : w.grownBy w1 none) :
    Bl w1 w.heap.size (is (List.replicate n 0)) 3 ∧ Below w.heap.size w w1 := by
  refine ⟨?_, (Below.refl w.heap.size w).grown hgrow (Nat.le_refl _) (by simp)⟩
  have hown1 : w1.ownsRow w.heap.size 3 1 (.slice (some ⟨w.heap.size, 0, none⟩) n n) n (is (List.replicate n 0)) := by
    rw [is_zeros]
    rw [Nat.mul_one, made_zeros] at hown
    exact hown
  exact block_of_own hown1

set_option maxRecDepth 100000 in
set_option maxHeartbeats 2000000 in
theorem rmul_any (a b m : Nat) (w : World) (ha : a < 18446744073709551616) (hb : b < 18446744073709551616) (hm : m < 18446744073709551616) (h0 : 0 < m) :
    Calls Try.prog 19 #[.int .u64 a, .int .u64 b, .int .u64 m] w fun e w' => e = .returned (.int .u64 (mlV a b m : Nat)) ∧ Below w.heap.size w w' := by
  obtain ⟨i0, hi, hz0, hz1, hz2⟩ := info_parts int_inf
  obtain ⟨d, hd, h63, hnb, hall⟩ := mdV_deg (a := a) h0 hm
  have hna := nb2_le ha
  have hnb2 := nb2_le hb
  obtain ⟨V, hV⟩ : ∃ V, V = mlV a b m := ⟨_, rfl⟩
  rw [← hV]
  have HV : Hid (V = pr (bv 2 (bts m)) d (pm a b)) := by unfold Hid; rw [bts_bv, hV, mlV_md, hall]
  have HD : Hid (Deg (bv 2 (bts m)) d) := by unfold Hid; rw [bts_bv]; exact hd
  obtain ⟨na, hnna⟩ : ∃ n, n = nb2 a := ⟨_, rfl⟩
  obtain ⟨nb, hnnb⟩ : ∃ n, n = nb2 b := ⟨_, rfl⟩
  have HC1 := Lib.hid (coef_any a)
  have HC3 := Lib.hid (coef_any b)
  have HC2 := Lib.hid (coef_any m)
  have HLA : Hid ((bts a).length = na) := by unfold Hid; rw [bts_len a ha, hnna]
  have HLB : Hid ((bts b).length = nb) := by unfold Hid; rw [bts_len b hb, hnnb]
  have HAL : Hid (a < 2 ^ na) := by unfold Hid; rw [hnna]; exact nb2_lt ha
  have HBL : Hid (b < 2 ^ nb) := by unfold Hid; rw [hnnb]; exact nb2_lt hb
  rw [← hnna] at HC1 hna
  rw [← hnnb] at HC3 hnb2
  rw [hnb] at HC2
  obtain ⟨N, hN⟩ : ∃ N, N = na + nb := ⟨_, rfl⟩
  have eN : (na : Int) + (nb : Int) = (N : Int) := by omega
  have hNB : N ≤ 128 := by omega
  have HN := Lib.hid hN
  clear hV hd hall hnna hnnb hnb hN
  go_enter Try.func19, Try.ntmps19
  go_wp2_with fail
  refine (HC1.out w ha).mono ?_
  rintro e w1 ⟨A1, c1, rfl, o1, b1⟩
  go_wp2_with fail
  refine (HC3.out w1 hb).mono ?_
  rintro e w2 ⟨A2, c2, rfl, o2, b2⟩
  have s1 := (Sl.own o1).below b2
  have s2 := Sl.own o2
  have h12 := b2.size
  have hb2 := next b1 b2
  clear o1 o2 b1 b2
  go_wp2_with (at_make; refine wpList_make_full _ rfl _ _ 45 rfl w2.heap.size 3 i0 (.int .i64 0) 1 Try.underlying45 hi hz0 hz1 .i64 .i64 _ _ N rfl rfl rfl rfl (by rw [hz2]; omega) (by unfold maxLen; omega) (Nat.le_refl _) ?_; intro w3 hown hgrow)
  obtain ⟨z3, b3⟩ := made_is hown hgrow
  clear hown hgrow
  obtain ⟨g, hg⟩ : ∃ g, g = w2.heap.size := ⟨_, rfl⟩
  have HG := Lib.hid hg
  rw [← hg] at z3 ⊢
  have hgw : w.heap.size ≤ g := by rw [hg]; exact hb2.size
  have hg1 : w1.heap.size ≤ g := by rw [hg]; exact h12
  have hg2 : w2.heap.size ≤ g := Nat.le_of_eq hg.symm
  have s13 := s1.below (b3.mono h12)
  have s23 := s2.below b3
  have hb3 := next hb2 b3
  clear hg s1 s2 b3 hb2
  go_loopw [10] (fun t wr => ∃ (i : Nat) (z : List Nat), i ≤ na ∧ t = .int .i64 i ∧ z.length = N ∧ Bt z ∧ bv 2 z = pm (a % 2 ^ i) b ∧ Bl wr g (is z) 3 ∧ Sl wr w1.heap.size A1 na (is (bts a)) ∧ Sl wr w2.heap.size A2 nb (is (bts b)) ∧ Below w.heap.size w wr) (fun t _ => na - (intOf t).toNat)
  case atStart => exact ⟨0, _, Nat.zero_le _, rfl, by simp, bt_zeros N, by rw [bv_zeros, Nat.pow_zero, Nat.mod_one, pm_zero_left], z3, s13, s23, hb3⟩
  case round =>
    clear z3 s13 s23 hb3
    obtain ⟨i, z, hil, rfl, hzl, hzb, hzv, zb, s1, s2, hb⟩ := hrel
    by_cases hlt : i < na
    · obtain ⟨x, hx⟩ : ∃ x, x = (bts a).getD i 0 := ⟨_, rfl⟩
      have hx2 : x < 2 := by rw [hx]; exact (bts_bt a).at_ i
      have HX : Hid (x = a / 2 ^ i % 2) := by unfold Hid; rw [hx, bv_digit (bts_bt a), bts_bv]
      have HXA := Lib.hid hx
      obtain ⟨P, hP⟩ : ∃ P, P = pm (a % 2 ^ i) b := ⟨_, rfl⟩
      rw [← hP] at hzv
      have HP := Lib.hid hP
      have HZL := Lib.hid hzl
      have HZB := Lib.hid hzb
      have HZV := Lib.hid hzv
      clear hx hP hzl hzb hzv
      go_wp2
      go_loopw [11] (fun t wr => ∃ (j : Nat) (y : List Nat), j ≤ nb ∧ t = .int .i64 (j : Int) ∧ y.length = N ∧ Bt y ∧ bv 2 y = onTo P x b i j ∧ Bl wr g (is y) 3 ∧ Sl wr w1.heap.size A1 na (is (bts a)) ∧ Sl wr w2.heap.size A2 nb (is (bts b)) ∧ Below w.heap.size w wr) (fun t _ => nb - (intOf t).toNat)
      case atStart => exact ⟨0, z, Nat.zero_le _, rfl, HZL.out, HZB.out, by rw [onTo_zero]; exact HZV.out, zb, s1, s2, hb⟩
      case round =>
        clear zb s1 s2 hb
        obtain ⟨j, y, hjl, rfl, hyl, hyb, hyv, zb, s1, s2, hb⟩ := hrel
        by_cases hjn : j < nb
        · obtain ⟨s, hs⟩ : ∃ s, s = i + j := ⟨_, rfl⟩
          have es : (i : Int) + (j : Int) = (s : Int) := by omega
          have hsN : s < N := by have := HN.out; omega
          obtain ⟨p, hp⟩ : ∃ p, p = y.getD s 0 := ⟨_, rfl⟩
          obtain ⟨q, hq⟩ : ∃ q, q = (bts b).getD j 0 := ⟨_, rfl⟩
          have hp2 : p < 2 := by rw [hp]; exact hyb.at_ s
          have hq2 : q < 2 := by rw [hq]; exact (bts_bt b).at_ j
          have hcp : wr.cell? ⟨g, s, none⟩ = some (.int .i64 (p : Int)) := by rw [zb.cell, is_gD (by omega), ← hp]
          have hfp := zb.frozen s
          obtain ⟨ad1, rfl, hab1, hac1⟩ := s1.2 (by omega)
          obtain ⟨ad2, rfl, hab2, hac2⟩ := s2.2 (by omega)
          have hcx : wr.cell? (ad1.add i) = some (.int .i64 (x : Int)) := by
            have h1 := hac1 i _ (is_gD (by rw [HLA.out]; exact hlt))
            rw [← HXA.out] at h1; exact h1
          have hcq : wr.cell? (ad2.add j) = some (.int .i64 (q : Int)) := by
            have h1 := hac2 j _ (is_gD (by rw [HLB.out]; exact hjn))
            rw [← hq] at h1; exact h1
          obtain ⟨xq, hxq⟩ : ∃ xq, xq = x * q := ⟨_, rfl⟩
          have hxq2 : xq < 2 := by rw [hxq]; rcases (show x = 0 ∨ x = 1 by omega) with h | h <;> rw [h] <;> omega
          have exq : (x : Int) * (q : Int) = (xq : Int) := by rw [hxq]; exact (Int.natCast_mul x q).symm
          obtain ⟨r, hr⟩ : ∃ r, r = (p + xq) % 2 := ⟨_, rfl⟩
          have er : ((p : Int) + (xq : Int)) % 2 = (r : Int) := by omega
          have hr2 : r < 2 := by omega
          have HNX : Hid (bv 2 (y.set s r) = onTo P x b i (j + 1)) := by
            unfold Hid
            have h1 := bv_flip hyb s xq (by omega) hxq2
            rw [← hp, ← hr, hyv, hxq, hq, bv_digit (bts_bt b), bts_bv, hs, onTo_next _ _ _ _ _ hx2, ← hs] at h1
            exact h1
          have HYB := Lib.hid (hyb.set s hr2)
          have HYL := Lib.hid hyl
          have ws := wrap_nat s (by omega)
          have wxq := wrap_nat xq (by omega)
          have u0 : (0 : Int) ≤ (s : Int) := by omega
          have u1 : (s : Int) < (N : Int) := by omega
          have u2 : (0 : Int) ≤ (i : Int) := by omega
          have u3 : (i : Int) < (na : Int) := by omega
          have u4 : (0 : Int) ≤ (j : Int) := by omega
          have u5 : (j : Int) < (nb : Int) := by omega
          have hg3 : g ≠ ad1.block := by omega
          have hg4 : g ≠ ad2.block := by omega
          have S1 := Lib.hid s1
          have S2 := Lib.hid s2
          clear hs hp hq hr hxq hyv hyb hyl hac1 hac2 s1 s2
          go_wp2
          go_still_tail 22, (by kernel_rfl)
          go_wp2
          go_roundw
          case rel =>
            have h2 := zb.set s (.int .i64 (r : Int))
            rw [is_set] at h2
            refine ⟨j + 1, y.set s r, by omega, by go_num, by rw [List.length_set, HYL.out], HYB.out, HNX.out, h2.drew, ?_, ?_, (hb.setCell (by simp; omega) _).drew⟩
            · exact S1.out.below ((Below.refl _ wr).setCell (p := ⟨g, s, none⟩) hg1 _).drew
            · exact S2.out.below ((Below.refl _ wr).setCell (p := ⟨g, s, none⟩) hg2 _).drew
          case measure => simp [intOf]; omega
        · have hjn2 : j = nb := by omega
          have HD2 : Hid (bv 2 y = pm (a % 2 ^ (i + 1)) b) := by
            unfold Hid
            rw [hyv, HP.out, HX.out, hjn2]
            exact onTo_all a b i nb HBL.out
          have HYB := Lib.hid hyb
          have HYL := Lib.hid hyl
          have q5 : ¬ (j : Int) < (nb : Int) := by omega
          clear hyv hyb hyl hjn2
          go_wp2
          go_roundw
          case rel => exact ⟨i + 1, y, by omega, by go_num, HYL.out, HYB.out, HD2.out, zb, s1, s2, hb⟩
          case measure => simp [intOf]; omega
    · have hin : i = na := by omega
      have HZV : Hid (bv 2 z = pm a b) := by unfold Hid; rw [hzv, hin, Nat.mod_eq_of_lt HAL.out]
      have HVV : Hid (V = pr (bv 2 (bts m)) d (bv 2 z)) := by unfold Hid; rw [HZV.out]; exact HV.out
      have hs := Sl.own (own_of_block (n := N) (base := w.heap.size) zb hgw (by rw [is_len]; exact hzl) (by unfold maxLen; omega))
      have HZB := Lib.hid hzb
      have q6 : ¬ (i : Int) < (na : Int) := by omega
      clear hzv hin hzb
      go_wp2_with fail
      refine (HC2.out wr hm).mono ?_
      rintro e w4 ⟨A4, c4, rfl, o4, b4⟩
      go_wp2_with fail
      refine (rest_any z (bts m) d V w4 _ _ _ A4 N (d + 1) N c4 (hs.below b4) (fun h => by cases h) (Sl.own o4) HZB.out (bts_bt m) b4.size (Nat.le_refl _) (by omega) rfl HD.out h63 HVV.out).mono ?_
      rintro e w5 ⟨z5, A5, n5, c5, rfl, hn5, hz5, hv5, s5, b5⟩
      go_wp2_with fail
      refine (of12_any z5 w5 _ A5 n5 c5 s5 hz5 (by omega)).mono ?_
      rintro e w6 ⟨rfl, rfl⟩
      rw [hv5]
      go_wp2
      go_ret
      exact ⟨rfl, next (next hb b4) b5⟩

set_option maxHeartbeats 1000000 in
theorem rsquare_any (a m n : Nat) (w : World) (ha : a < 18446744073709551616) (hm : m < 18446744073709551616) (h0 : 0 < m) (hn : n ≤ 64) :
    Calls Try.prog 21 #[.int .u64 a, .int .u64 m, .int .i64 (n : Nat)] w fun e w' => e = .returned (.int .u64 (sqV a m n : Nat)) ∧ Below w.heap.size w w' := by
  obtain ⟨V, hV⟩ : ∃ V, V = sqV a m n := ⟨_, rfl⟩
  rw [← hV]
  have HV := Lib.hid hV
  obtain ⟨A, hA⟩ : ∃ A, A = mdV a m := ⟨_, rfl⟩
  have HA : Hid (A = sqV a m 0) := hA
  have HM := Lib.hid (rmod_any a m w ha hm h0)
  rw [← hA] at HM
  clear hV hA
  go_enter Try.func21, Try.ntmps21
  go_wp2_with fail
  refine HM.out.mono ?_
  rintro e w1 ⟨rfl, hb1⟩
  go_wp2
  go_loopw [0, 7] (fun x i wr => ∃ k c : Nat, k ≤ n ∧ i = .int .i64 k ∧ x = .int .u64 (c : Int) ∧ c = sqV a m k ∧ Below w.heap.size w wr) (fun _ i _ => n - (intOf i).toNat)
  case atStart => exact ⟨0, A, Nat.zero_le _, rfl, rfl, HA.out, hb1⟩
  case round =>
    clear hb1
    obtain ⟨k, c, hk, rfl, rfl, hc, hb⟩ := hrel
    by_cases hlt : k < n
    · have hcl : c < 18446744073709551616 := by rw [hc]; exact sqV_lt _ _ hm
      have HNX := Lib.hid (sqV_next a m k hm)
      rw [← hc] at HNX
      obtain ⟨c2, hc2⟩ : ∃ c2, c2 = sqV a m (k + 1) := ⟨_, rfl⟩
      rw [← hc2] at HNX
      have HC2 := Lib.hid hc2
      clear hc hc2
      go_wp2_with fail
      refine (rmul_any c c m wr hcl hcl hm h0).mono ?_
      rw [HNX.out]
      rintro e w2 ⟨rfl, hb2⟩
      replace hb := next hb hb2
      clear hb2
      go_wp2
      go_roundw
      case rel => exact ⟨k + 1, c2, by omega, by go_num, rfl, HC2.out, hb⟩
      case measure => simp [intOf]; omega
    · have hkn : k = n := by omega
      have HE : Hid (V = c) := by unfold Hid; rw [HV.out, hc, hkn]
      clear hc hkn
      go_wp2
      go_ret
      exact ⟨ret_int (by rw [HE.out]), hb⟩

/-- Is a a multiple of f? -/
def dvB (f a : Nat) : Bool := decide (mdV a f = 0)
theorem dvB_iff {f a : Nat} (h0 : 0 < f) (hf : f < 18446744073709551616) : dvB f a = true ↔ Dv f a := by
  obtain ⟨d, hd, _, _, he⟩ := mdV_deg (a := a) h0 hf
  unfold dvB
  rw [decide_eq_true_iff, he, dv_pr hd]
theorem dvB_no {f a : Nat} (h0 : 0 < f) (hf : f < 18446744073709551616) (h : ¬ Dv f a) : dvB f a = false := by
  rcases hb : dvB f a with _ | _
  · rfl
  · exact absurd ((dvB_iff h0 hf).1 hb) h

theorem rdiv_any (f a : Nat) (w : World) (hf : f < 18446744073709551616) (ha : a < 18446744073709551616) (h0 : 0 < f) :
    Calls Try.prog 23 #[.int .u64 f, .int .u64 a] w fun e w' => e = .returned (.bool (dvB f a)) ∧ Below w.heap.size w w' := by
  have HM := Lib.hid (rmod_any a f w ha hf h0)
  have HB : Hid (dvB f a = decide (mdV a f = 0)) := rfl
  obtain ⟨V, hV⟩ : ∃ V, V = mdV a f := ⟨_, rfl⟩
  rw [← hV] at HM HB
  rw [HB.out]
  clear hV
  have HE : Hid (((V : Int) == 0) = decide (V = 0)) := by
    unfold Hid
    by_cases h : V = 0
    · subst h; rfl
    · rw [decide_eq_false h]; simp; omega
  go_enter Try.func23, Try.ntmps23
  go_wp2_with fail
  refine HM.out.mono ?_
  rintro e w1 ⟨rfl, hb1⟩
  go_wp2
  go_ret
  exact ⟨ret_bool HE.out, hb1⟩

end Go.Proofs.Ytfgpaffdaeiloaa
