/- The walk of the law Gf2Factors. -/
import Derived.Test.YtfgpaffdaeiloaaGfU
namespace Go.Proofs.Ytfgpaffdaeiloaa
set_option maxRecDepth 100000
open Go Go.RowKit
set_option linter.unusedVariables false
set_option linter.unusedSimpArgs false

set_option maxHeartbeats 1000000 in
theorem gf2Factors_walk (a0 a1 : Int) (w : World) (w0 : (Lit.int .u32 a0).wf = true) (w1 : (Lit.int .u32 a1).wf = true) :
    Calls Try.prog 11 #[.int .u32 a0, .int .u32 a1] w fun e w' => e = .returned (.bool true) ∧ Below w.heap.size w w' := by
  obtain ⟨b0, b1⟩ := bounds_u32 w0
  obtain ⟨b2, b3⟩ := bounds_u32 w1
  clear w0 w1
  obtain ⟨a, rfl⟩ := Int.eq_ofNat_of_zero_le b0
  obtain ⟨b, rfl⟩ := Int.eq_ofNat_of_zero_le b2
  have ha : a < 4294967296 := by omega
  have hb : b < 4294967296 := by omega
  clear b0 b1 b2 b3
  have AW := Lib.hid awake12_any
  rcases (show a < 2 ∨ (¬ a < 2 ∧ b < 2) ∨ (2 ≤ a ∧ 2 ≤ b) by omega) with h1 | ⟨h1, h2⟩ | ⟨h1, h2⟩
  · have q1 : (a : Int) < 2 := by omega
    go_enter Try.func11, Try.ntmps11
    go_wp2_with (first
      | (go_at_call 16; refine (AW.out _).mono ?_; rintro e w' ⟨rfl, rfl⟩)
      | fail)
    go_ret
    exact ⟨rfl, Below.refl _ _⟩
  · have q1 : ¬ (a : Int) < 2 := by omega
    have q2 : (b : Int) < 2 := by omega
    go_enter Try.func11, Try.ntmps11
    go_wp2_with (first
      | (go_at_call 16; refine (AW.out _).mono ?_; rintro e w' ⟨rfl, rfl⟩)
      | fail)
    go_ret
    exact ⟨rfl, Below.refl _ _⟩
  · have q1 : ¬ (a : Int) < 2 := by omega
    have q2 : ¬ (b : Int) < 2 := by omega
    go_enter Try.func11, Try.ntmps11
    go_wp2
    go_loop [5, 14] (fun x i => ∃ k p : Nat, k ≤ 32 ∧ i = .int .i64 k ∧ x = .int .u64 (p : Int) ∧ p = pm (b % 2 ^ k) a ∧ p < 18446744073709551616) (fun _ i => 32 - (intOf i).toNat)
    case atStart => exact ⟨0, 0, by decide, rfl, rfl, by rw [Nat.pow_zero, Nat.mod_one, pm_zero_left], by decide⟩
    case round =>
      obtain ⟨k, p, hk, rfl, rfl, hp, hpl⟩ := hrel
      by_cases hlt : k < 32
      · have HST : Hid (p ^^^ (if b / 2 ^ k % 2 = 1 then a * 2 ^ k else 0) = pm (b % 2 ^ (k + 1)) a) := by
          unfold Hid
          rw [bit_take, xor_pm, ← hp]
          congr 1
          split
          · rw [pm_pow, Nat.mul_comm]
          · rw [pm_zero_left]
        obtain ⟨t, ht⟩ : ∃ t, t = b / 2 ^ k := ⟨_, rfl⟩
        rw [← ht] at HST
        have et : (b : Int) / 2 ^ k = (t : Int) := by rw [ht]; simp
        have htl : t < 4294967296 := by rw [ht]; exact Nat.lt_of_le_of_lt (Nat.div_le_self _ _) hb
        obtain ⟨q, hq⟩ : ∃ q, q = t % 2 := ⟨_, rfl⟩
        have e1 : bits BinOp.and IntKind.u32 (t : Int) 1 = (q : Int) := by
          have := u32_and_nat t 1 htl (by decide)
          rw [Nat.and_one_is_mod, ← hq] at this
          exact this
        rw [← hq] at HST
        have hq2 : q < 2 := by omega
        obtain ⟨s, hs⟩ : ∃ s, s = a * 2 ^ k := ⟨_, rfl⟩
        rw [← hs] at HST
        have hsl : s < 18446744073709551616 := by
          rw [hs]
          have h3 : a * 2 ^ k ≤ 4294967295 * 2 ^ 31 := Nat.mul_le_mul (by omega) (Nat.pow_le_pow_right (by decide) (by omega))
          omega
        have ew : IntKind.u64.wrap ((a : Int) * 2 ^ k) = (s : Int) := by
          have : ((a : Int) * 2 ^ k) = ((a * 2 ^ k : Nat) : Int) := by simp
          rw [this, ← hs]; simp [IntKind.wrap, IntKind.bits, IntKind.signed]; omega
        obtain ⟨p2, hp2⟩ : ∃ p2, p2 = p ^^^ s := ⟨_, rfl⟩
        have ep2 : bits BinOp.xor IntKind.u64 (p : Int) (s : Int) = (p2 : Int) := by rw [hp2]; exact u64_xor_nat _ _ hpl hsl
        have hp2l : p2 < 18446744073709551616 := by rw [hp2]; exact Nat.xor_lt_two_pow (n := 64) hpl hsl
        clear ht hq hs hp
        rcases (show q = 0 ∨ q = 1 by omega) with rfl | rfl
        · clear hp2
          go_wp2
          go_round
          case rel =>
            have h4 := HST.out
            rw [if_neg (by decide), Nat.xor_zero] at h4
            exact ⟨k + 1, p, by omega, by go_num, rfl, h4, hpl⟩
          case measure => simp [intOf]; omega
        · have HP2 := Lib.hid hp2
          clear hp2
          go_wp2
          go_round
          case rel =>
            have h4 := HST.out
            rw [if_pos (by decide), ← HP2.out] at h4
            exact ⟨k + 1, p2, by omega, by go_num, by first | rfl | rw [ew, ep2], h4, hp2l⟩
          case measure => simp [intOf]; omega
      · have hk32 : k = 32 := by omega
        subst hk32
        have HF : Hid (irrB p = false) := by
          unfold Hid
          rw [hp, Nat.mod_eq_of_lt (show b < 2 ^ 32 by omega)]
          exact irrB_false (prod_not_irr h2 h1)
        clear hp
        go_wp2_with fail
        refine (irr_any p _ hpl).mono ?_
        rw [HF.out]
        rintro e w1 ⟨rfl, rfl⟩
        go_wp2_with (first
          | (go_at_call 16; refine (AW.out _).mono ?_; rintro e w' ⟨rfl, rfl⟩)
          | fail)
        go_ret
        exact ⟨rfl, Below.refl _ _⟩

end Go.Proofs.Ytfgpaffdaeiloaa
