/- Polynomials over the field of two elements, as numbers: sum (exclusive or), product, degree, remainder, division with remainder. No program is named here. -/
import Derived.Test.YtkopdkamhkmefaaLA
namespace Go.Proofs.Ytkopdkamhkmefaa
set_option maxRecDepth 100000
set_option linter.unusedVariables false

/-- The product. -/
def pm : Nat → Nat → Nat
  | 0, _ => 0
  | a + 1, b => 2 * pm ((a + 1) / 2) b ^^^ (if (a + 1) % 2 = 1 then b else 0)
termination_by a => a
decreasing_by omega

theorem pm_zero_left (b : Nat) : pm 0 b = 0 := by unfold pm; rfl
theorem pm_step (a b : Nat) : pm a b = 2 * pm (a / 2) b ^^^ (if a % 2 = 1 then b else 0) := by
  cases a with
  | zero => simp [pm_zero_left]
  | succ a => rw [pm]
theorem half_ind {p : Nat → Prop} (h0 : p 0) (h : ∀ a, 0 < a → p (a / 2) → p a) : ∀ a, p a := by
  intro a
  induction a using Nat.strongRecOn with
  | ind a ih =>
    rcases Nat.eq_zero_or_pos a with h1 | h1
    · rw [h1]; exact h0
    · exact h a h1 (ih _ (by omega))

theorem two_xor (a b : Nat) : 2 * (a ^^^ b) = 2 * a ^^^ 2 * b := by
  have h := Nat.shiftLeft_xor_distrib (a := a) (b := b) (i := 1)
  simpa [Nat.shiftLeft_eq, Nat.mul_comm] using h
theorem xor_div2 (a b : Nat) : (a ^^^ b) / 2 = a / 2 ^^^ b / 2 := by
  have h := Nat.shiftRight_xor_distrib (a := a) (b := b) (i := 1)
  simpa [Nat.shiftRight_eq_div_pow] using h
theorem xor_mod2 (a b : Nat) : (a ^^^ b) % 2 = (a % 2 + b % 2) % 2 := by
  have h := Nat.testBit_xor a b 0
  simp only [Nat.testBit_zero] at h
  rcases Nat.mod_two_eq_zero_or_one a with h1 | h1 <;> rcases Nat.mod_two_eq_zero_or_one b with h2 | h2 <;> rcases Nat.mod_two_eq_zero_or_one (a ^^^ b) with h3 | h3 <;> simp [h1, h2, h3] at h ⊢
theorem xor4 (a b c d : Nat) : (a ^^^ b) ^^^ (c ^^^ d) = (a ^^^ c) ^^^ (b ^^^ d) := by
  rw [Nat.xor_assoc, Nat.xor_assoc, ← Nat.xor_assoc b, Nat.xor_comm b c, Nat.xor_assoc c]
theorem xor_self_left (a b : Nat) : a ^^^ (a ^^^ b) = b := by rw [← Nat.xor_assoc, Nat.xor_self, Nat.zero_xor]
theorem xor_eq_zero {a b : Nat} (h : a ^^^ b = 0) : a = b := by
  have := xor_self_left a b
  rw [h, Nat.xor_zero] at this
  exact this

theorem pm_zero (a : Nat) : pm a 0 = 0 := by
  induction a using half_ind with
  | h0 => exact pm_zero_left 0
  | h a h0 ih => rw [pm_step, ih]; simp
/-- Over a sum. -/
theorem pm_xor (a b c : Nat) : pm a (b ^^^ c) = pm a b ^^^ pm a c := by
  induction a using half_ind with
  | h0 => simp [pm_zero_left]
  | h a h0 ih =>
    rw [pm_step a (b ^^^ c), pm_step a b, pm_step a c, ih, two_xor, xor4]
    congr 1
    split <;> simp
theorem pm_two (a b : Nat) : pm a (2 * b) = 2 * pm a b := by
  induction a using half_ind with
  | h0 => simp [pm_zero_left]
  | h a h0 ih =>
    rw [pm_step a (2 * b), pm_step a b, ih, two_xor]
    congr 1
    split <;> simp
theorem pm_two_left (a b : Nat) : pm (2 * a) b = 2 * pm a b := by
  rw [pm_step]
  have h1 : 2 * a / 2 = a := by omega
  have h2 : ¬ (2 * a % 2 = 1) := by omega
  rw [h1, if_neg h2, Nat.xor_zero]
theorem pm_one_left (b : Nat) : pm 1 b = b := by
  rw [pm_step]
  simp [pm_zero_left]
theorem pm_one (a : Nat) : pm a 1 = a := by
  induction a using half_ind with
  | h0 => exact pm_zero_left 1
  | h a h0 ih =>
    rw [pm_step, ih]
    have h1 : a / 2 + a / 2 = 2 * (a / 2) := by omega
    rcases Nat.mod_two_eq_zero_or_one a with h | h
    · rw [if_neg (by omega), Nat.xor_zero]; omega
    · rw [if_pos h]
      have h2 : 2 * (a / 2) ^^^ 1 = 2 * (a / 2) + 1 := by
        have h3 := Nat.two_pow_add_eq_or_of_lt (i := 1) (b := 1) (by decide) (a / 2)
        have h4 : 2 * (a / 2) ^^^ 1 = (2 * (a / 2) + 1) := by
          apply Nat.eq_of_testBit_eq
          intro i
          cases i with
          | zero => simp [Nat.testBit_zero]
          | succ i => simp [Nat.testBit_succ, xor_div2]; congr 1; omega
        exact h4
      rw [h2]; omega
/-- Left, over a sum. -/
theorem xor_pm (a b c : Nat) : pm (a ^^^ b) c = pm a c ^^^ pm b c := by
  induction a using half_ind generalizing b with
  | h0 => simp [pm_zero_left]
  | h a h0 ih =>
    rw [pm_step (a ^^^ b), xor_div2, ih, two_xor, pm_step a c, pm_step b c, xor4, xor_mod2]
    congr 1
    rcases Nat.mod_two_eq_zero_or_one a with h1 | h1 <;> rcases Nat.mod_two_eq_zero_or_one b with h2 | h2 <;> simp [h1, h2]
theorem pm_assoc (a b c : Nat) : pm (pm a b) c = pm a (pm b c) := by
  induction a using half_ind with
  | h0 => simp [pm_zero_left]
  | h a h0 ih =>
    rw [pm_step a b, xor_pm, pm_two_left, ih, pm_step a (pm b c)]
    congr 1
    split
    · rfl
    · exact pm_zero_left c
theorem pm_comm (a b : Nat) : pm a b = pm b a := by
  induction a using half_ind generalizing b with
  | h0 => rw [pm_zero_left, pm_zero]
  | h a h0 ih =>
    rw [pm_step, ih]
    have h2 : pm b a = pm b (2 * (a / 2) ^^^ (a % 2)) := by
      congr 1
      have : pm a 1 = a := pm_one a
      rw [pm_step, pm_one] at this
      rcases Nat.mod_two_eq_zero_or_one a with h | h
      · rw [h, Nat.xor_zero]; omega
      · rw [if_pos h] at this; rw [h]; exact this.symm
    rw [h2, pm_xor, pm_two]
    congr 1
    rcases Nat.mod_two_eq_zero_or_one a with h | h
    · rw [if_neg (by omega), h, pm_zero]
    · rw [if_pos h, h, pm_one]

/-- The degree is n. -/
def Deg (a n : Nat) : Prop := 2 ^ n ≤ a ∧ a < 2 ^ (n + 1)
theorem deg_ex {a : Nat} (h : 0 < a) : ∃ n, Deg a n := by
  induction a using half_ind with
  | h0 => omega
  | h a h0 ih =>
    rcases Nat.eq_zero_or_pos (a / 2) with h1 | h1
    · exact ⟨0, by have : a = 1 := by omega
                   subst this; exact ⟨by decide, by decide⟩⟩
    · obtain ⟨n, hn1, hn2⟩ := ih h1
      refine ⟨n + 1, ?_, ?_⟩
      · rw [Nat.pow_succ]; omega
      · rw [Nat.pow_succ]; omega
theorem Deg.pos {a n : Nat} (h : Deg a n) : 0 < a := Nat.lt_of_lt_of_le (Nat.two_pow_pos n) h.1
theorem Deg.uniq {a n k : Nat} (h : Deg a n) (h' : Deg a k) : n = k := by
  rcases Nat.lt_trichotomy n k with h1 | h1 | h1
  · have := Nat.pow_le_pow_right (show 0 < 2 by decide) h1
    have h2 := h.2; have h3 := h'.1; simp only [Nat.succ_eq_add_one] at this; omega
  · exact h1
  · have := Nat.pow_le_pow_right (show 0 < 2 by decide) h1
    have h2 := h'.2; have h3 := h.1; simp only [Nat.succ_eq_add_one] at this; omega
/-- What is below the top changes no degree. -/
theorem Deg.xor {a n b : Nat} (h : Deg a n) (hb : b < 2 ^ n) : Deg (a ^^^ b) n := by
  refine ⟨?_, ?_⟩
  · rcases Nat.lt_or_ge (a ^^^ b) (2 ^ n) with h1 | h1
    · have h2 : (a ^^^ b) ^^^ b < 2 ^ n := Nat.xor_lt_two_pow h1 hb
      rw [Nat.xor_assoc, Nat.xor_self, Nat.xor_zero] at h2
      have := h.1; omega
    · exact h1
  · exact Nat.xor_lt_two_pow h.2 (Nat.lt_of_lt_of_le hb (Nat.pow_le_pow_right (by decide) (by omega)))
/-- Two of one degree: their sum is of a lower one. -/
theorem Deg.xor_same {a b n : Nat} (h : Deg a n) (h' : Deg b n) : a ^^^ b < 2 ^ n := by
  apply Nat.lt_pow_two_of_testBit
  intro i hi
  rw [Nat.testBit_xor]
  have top : ∀ x, Deg x n → x.testBit i = decide (i = n) := by
    intro x hx
    rcases Nat.lt_or_ge n i with h1 | h1
    · rw [Nat.testBit_lt_two_pow (Nat.lt_of_lt_of_le hx.2 (Nat.pow_le_pow_right (by decide) h1))]
      simp; omega
    · have : i = n := by omega
      subst this
      rw [Nat.testBit_eq_decide_div_mod_eq]
      have h2 : x / 2 ^ i = 1 := by
        apply Nat.div_eq_of_lt_le
        · rw [Nat.one_mul]; exact hx.1
        · have := hx.2; rw [Nat.pow_succ] at this; omega
      simp [h2]
  rw [top a h, top b h']
  simp
/-- The degree of a product. -/
theorem Deg.mul {a b n k : Nat} (h : Deg a n) (h' : Deg b k) : Deg (pm a b) (n + k) := by
  induction n generalizing a with
  | zero =>
    have : a = 1 := by have h1 := h.1; have h2 := h.2; simp at h1 h2; omega
    subst this
    rw [pm_one_left, Nat.zero_add]; exact h'
  | succ n ih =>
    have h1 : Deg (a / 2) n := by
      have h2 := h.1; have h3 := h.2
      rw [Nat.pow_succ] at h2 h3
      exact ⟨by omega, by omega⟩
    have h2 := ih h1
    rw [pm_step]
    have h3 : Deg (2 * pm (a / 2) b) (n + k + 1) := by
      have h4 := h2.1; have h5 := h2.2
      refine ⟨by rw [Nat.pow_succ]; omega, by rw [Nat.pow_succ]; omega⟩
    have e : n + 1 + k = n + k + 1 := by omega
    rw [e]
    refine h3.xor ?_
    split
    · exact Nat.lt_of_lt_of_le h'.2 (Nat.pow_le_pow_right (by decide) (by omega))
    · exact Nat.two_pow_pos _
theorem pm_eq_zero {a b : Nat} (h : pm a b = 0) : a = 0 ∨ b = 0 := by
  rcases Nat.eq_zero_or_pos a with h1 | h1
  · exact .inl h1
  · rcases Nat.eq_zero_or_pos b with h2 | h2
    · exact .inr h2
    · obtain ⟨n, hn⟩ := deg_ex h1
      obtain ⟨k, hk⟩ := deg_ex h2
      have := (hn.mul hk).pos
      omega

end Go.Proofs.Ytkopdkamhkmefaa
