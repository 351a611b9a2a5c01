/- The walk of the law Gf2Found. -/
import Derived.Test.YtfgpaffdaeiloaaGfU
namespace Go.Proofs.Ytfgpaffdaeiloaa
set_option maxRecDepth 100000
open Go Go.RowKit
set_option linter.unusedVariables false
set_option linter.unusedSimpArgs false

theorem or_odd {d H s : Nat} (h1 : 1 ≤ d) (hH : H = 2 ^ (d - 1)) (hs : s < H) : (2 * H ||| 2 * s) ||| 1 = oddOf d s := by
  have e : 2 ^ d = 2 * H := by rw [hH, ← Nat.pow_succ']; congr 1; omega
  have h2 := or_add d 1 (2 * s) (by omega)
  rw [Nat.mul_one, e] at h2
  rw [h2]
  have h3 := or_add 1 (H + s) 1 (by decide)
  rw [show 2 * H + 2 * s = 2 ^ 1 * (H + s) by omega, h3]
  unfold oddOf
  omega

set_option maxHeartbeats 2000000 in
theorem gf2Found_walk (a0 a1 : Int) (w : World) (w0 : (Lit.int .u64 a0).wf = true) (w1 : (Lit.int .u8 a1).wf = true) :
    Calls Try.prog 9 #[.int .u64 a0, .int .u8 a1] w fun e w' => e = .returned (.bool true) ∧ Below w.heap.size w w' := by
  obtain ⟨b0, b1⟩ := bounds_u64 w0
  obtain ⟨b2, b3⟩ := bounds_u8 w1
  clear w0 w1
  obtain ⟨seed, rfl⟩ := Int.eq_ofNat_of_zero_le b0
  obtain ⟨g, rfl⟩ := Int.eq_ofNat_of_zero_le b2
  have hs : seed < 18446744073709551616 := by omega
  have hg : g < 256 := by omega
  clear b0 b1 b2 b3
  have AW := Lib.hid awake12_any
  obtain ⟨d, hd⟩ : ∃ d, d = g % 52 + 2 := ⟨_, rfl⟩
  have ed : (g : Int) % 52 + 2 = (d : Int) := by omega
  have h2 : 2 ≤ d := by omega
  have h53 : d ≤ 53 := by omega
  clear hd
  have F1 := Lib.hid (fun w => find_ok seed d w hs h2 h53)
  obtain ⟨H, hH⟩ : ∃ H, H = 2 ^ (d - 1) := ⟨_, rfl⟩
  have hHp : 0 < H := by rw [hH]; exact Nat.two_pow_pos _
  have hd2 : 2 ^ d = 2 * H := by rw [hH, ← Nat.pow_succ']; congr 1; omega
  have hHl : H ≤ 4503599627370496 := by rw [hH]; exact Nat.pow_le_pow_right (n := 2) (by decide) (show d - 1 ≤ 52 by omega)
  have HH := Lib.hid hH
  obtain ⟨H2, hH2⟩ : ∃ H2, H2 = 2 * H := ⟨_, rfl⟩
  have ew1 : IntKind.u64.wrap (2 ^ d) = (H2 : Int) := by
    have : (2 : Int) ^ d = ((2 ^ d : Nat) : Int) := by simp
    rw [this, hd2]; simp [IntKind.wrap, IntKind.bits, IntKind.signed]; omega
  have ew2 : IntKind.u64.wrap (2 ^ (d - 1)) = (H : Int) := by
    have : (2 : Int) ^ (d - 1) = ((2 ^ (d - 1) : Nat) : Int) := by simp
    rw [this, ← hH]; simp [IntKind.wrap, IntKind.bits, IntKind.signed]; omega
  have ed1 : (d : Int) - 1 = ((d - 1 : Nat) : Int) := by omega
  have hH0 : ((H : Int) == 0) = false := by simp; omega
  obtain ⟨s0, hs0⟩ : ∃ s0, s0 = seed % H := ⟨_, rfl⟩
  have hs0l : s0 < H := by rw [hs0]; exact Nat.mod_lt _ hHp
  have es1 : (seed : Int) % (H : Int) = (s0 : Int) := by rw [hs0]; simp
  have HS0 := Lib.hid hs0
  have HH2 := Lib.hid hH2
  clear hH hd2 hs0 hH2
  go_enter Try.func9, Try.ntmps9
  go_wp2_with fail
  refine (F1.out _).mono ?_
  rintro e w1 ⟨k, m, rfl, hf, rfl⟩
  obtain ⟨hkH, hmo, hmi, hno⟩ := hf
  rw [← HH.out] at hkH hmo hno
  obtain ⟨sk, hsk⟩ : ∃ s, s = (seed + k) % H := ⟨_, rfl⟩
  have hskl : sk < H := by rw [hsk]; exact Nat.mod_lt _ hHp
  rw [← hsk] at hmo
  have hdm : Deg m d := by rw [hmo]; exact oddOf_deg (by omega) (by rw [← HH.out]; exact hskl)
  have hm2 : m = 2 * H + 1 + 2 * sk := by
    rw [hmo]
    unfold oddOf
    have : 2 ^ d = 2 * H := by rw [HH.out, ← Nat.pow_succ']; congr 1; omega
    omega
  have hml : m < 18446744073709551616 := by omega
  have HNB : Hid (nb2 m = d + 1) := nb2_deg hdm hml
  have I1 := Lib.hid (fun w => irr_any m w hml)
  rw [irrB_true hmi] at I1
  have em2 : (m : Int) % 2 = 1 := by omega
  obtain ⟨mh, hmh⟩ : ∃ x, x = H + sk := ⟨_, rfl⟩
  have emh : (m : Int) / 2 = (mh : Int) := by omega
  have emk : (mh : Int) % (H : Int) = (sk : Int) := by
    have : mh % H = sk := by rw [hmh, Nat.add_mod_left, Nat.mod_eq_of_lt hskl]
    rw [← this]; simp
  have HSK := Lib.hid hsk
  have HMI := Lib.hid hmi
  have HNO := Lib.hid hno
  have HMO := Lib.hid hmo
  clear hmo hmi hno hsk hdm hm2 hmh
  go_wp2_with (first
    | (go_at_call 14; refine (degree_to m d _ hml HNB.out).mono ?_; rintro e w' ⟨rfl, rfl⟩)
    | (go_at_call 24; refine (I1.out _).mono ?_; rintro e w' ⟨rfl, rfl⟩)
    | fail)
  go_quiet (fail)
  rw [es1, emk]
  obtain ⟨W3, hW3⟩ : ∃ W, W = w.drewN nq := ⟨_, rfl⟩
  have hb3 : Below w.heap.size w (w.drewN nq) := (Below.refl _ w).trans (Drew.below ⟨_, rfl⟩ _)
  rw [← hW3] at hb3 ⊢
  clear hW3
  go_wp2
  go_loop [9, 49] (fun x i => ∃ j s : Nat, j ≤ 200 ∧ i = .int .i64 j ∧ x = .int .u64 (s : Int) ∧ s < H ∧ s = (seed + j) % H ∧ j ≤ k) (fun _ i => 200 - (intOf i).toNat)
  case atStart => exact ⟨0, s0, by decide, rfl, rfl, hs0l, HS0.out, Nat.zero_le _⟩
  case round =>
    obtain ⟨j, s, hj, rfl, rfl, hsl, hsj, hjk⟩ := hrel
    by_cases hlt : j < 200
    · by_cases hse : s = sk
      · subst hse
        clear hsj
        go_wp2_with (first
          | (go_at_call 16; refine (AW.out _).mono ?_; rintro e w' ⟨rfl, rfl⟩)
          | fail)
        go_ret
        exact ⟨rfl, hb3⟩
      · have qs : ((s : Int) == (sk : Int)) = false := by simp; omega
        have hjk2 : j < k := by
          rcases (show j < k ∨ j = k by omega) with h | h
          · exact h
          · rw [h, ← HSK.out] at hsj; exact absurd hsj hse
        have HNI : Hid (irrB (oddOf d s) = false) := by unfold Hid; rw [hsj]; exact irrB_false (HNO.out j hjk2)
        have HSJ := Lib.hid hsj
        obtain ⟨m2, hm2⟩ : ∃ x, x = oddOf d s := ⟨_, rfl⟩
        have hm2l : m2 < 18446744073709551616 := by
          have := (oddOf_deg (d := d) (s := s) (by omega) (by rw [← HH.out]; exact hsl)).2
          rw [← hm2] at this
          exact pow_lt64 this (by omega)
        obtain ⟨ds, hds⟩ : ∃ x, x = 2 * s := ⟨_, rfl⟩
        have e1 : (s : Int) * 2 = (ds : Int) := by omega
        have hdsl : ds < 18446744073709551616 := by omega
        have hH2l : H2 < 18446744073709551616 := by have := HH2.out; omega
        obtain ⟨o1, ho1⟩ : ∃ x, x = H2 ||| ds := ⟨_, rfl⟩
        have eo1 : bits BinOp.or IntKind.u64 (H2 : Int) (ds : Int) = (o1 : Int) := by rw [ho1]; exact u64_or_nat _ _ hH2l hdsl
        have ho1l : o1 < 18446744073709551616 := by rw [ho1]; exact Nat.or_lt_two_pow (n := 64) hH2l hdsl
        have eo2 : bits BinOp.or IntKind.u64 (o1 : Int) 1 = (m2 : Int) := by
          have h3 := u64_or_nat o1 1 ho1l (by decide)
          have h4 := or_odd (d := d) (H := H) (s := s) (by omega) HH.out hsl
          rw [← HH2.out, ← hds, ← ho1, ← hm2] at h4
          rw [h4] at h3
          exact h3
        rw [← hm2] at HNI
        have I2 := Lib.hid (fun w => irr_any m2 w hm2l)
        rw [HNI.out] at I2
        obtain ⟨s2, hs2⟩ : ∃ s2, s2 = (s + 1) % H := ⟨_, rfl⟩
        have hs2l : s2 < H := by rw [hs2]; exact Nat.mod_lt _ hHp
        have es2 : ((s : Int) + 1) % (H : Int) = (s2 : Int) := by rw [hs2]; simp
        have HS2 := Lib.hid hs2
        clear hsj hm2 hds ho1 hs2
        go_wp2_with fail
        refine (I2.out _).mono ?_
        rintro e w4 ⟨rfl, rfl⟩
        go_wp2
        go_round
        case rel => exact ⟨j + 1, s2, by omega, by go_num, by first | rfl | rw [es2], hs2l, by rw [HS2.out, HSJ.out, step_mod], by omega⟩
        case measure => simp [intOf]; omega
    · go_wp2_with (first
        | (go_at_call 16; refine (AW.out _).mono ?_; rintro e w' ⟨rfl, rfl⟩)
        | fail)
      go_ret
      exact ⟨rfl, hb3⟩

end Go.Proofs.Ytfgpaffdaeiloaa
