/- Whole numbers below 2^53 as floats of 64 bits: exact; their sums, differences and comparisons. No program is named here. -/
import Derived.Test.YtfmbehjllkmfiaaLA
import Derived.Laws.FloatArith
namespace Go.Proofs.Ytfmbehjllkmfiaa
set_option maxRecDepth 100000
open Go Ieee
set_option linter.unusedVariables false

theorem dbl_frac : double.fractionBits = 52 := rfl
theorem dbl_least : double.leastPlace = -1074 := by decide
theorem dbl_binade : double.binade = 4503599627370496 := by decide
theorem dbl_inf : double.infRung = 9218868437227405312 := by decide
theorem dbl_sign : double.signWeight = 9223372036854775808 := by decide

theorem log2_shift {n : Nat} (h : n ≠ 0) (j : Nat) : (n * 2 ^ j).log2 = n.log2 + j := by
  have h1 := (Nat.log2_eq_iff (n := n) (k := n.log2) h).1 rfl
  have hp := Nat.two_pow_pos j
  rw [Nat.log2_eq_iff (Nat.ne_of_gt (Nat.mul_pos (Nat.pos_of_ne_zero h) hp))]
  refine ⟨?_, ?_⟩
  · rw [Nat.pow_add]; exact Nat.mul_le_mul_right _ h1.1
  · rw [show n.log2 + j + 1 = n.log2 + 1 + j by omega, Nat.pow_add]; exact Nat.mul_lt_mul_of_pos_right h1.2 hp
theorem log2_le52 {n : Nat} (h0 : n ≠ 0) (h : n < 2 ^ 53) : n.log2 ≤ 52 := by
  have h1 := (Nat.log2_eq_iff (n := n) (k := n.log2) h0).1 rfl
  rcases Nat.lt_or_ge 52 n.log2 with h2 | h2
  · have := Nat.pow_le_pow_right (show 0 < 2 by decide) h2
    simp only [Nat.succ_eq_add_one] at this
    omega
  · exact h2

/-- The whole number's 53 digits. -/
def kf (n : Nat) : Nat := n * 2 ^ (52 - n.log2)
theorem kf_bounds {n : Nat} (h0 : n ≠ 0) (h : n < 2 ^ 53) : 4503599627370496 ≤ kf n ∧ kf n < 9007199254740992 := by
  have h1 := (Nat.log2_eq_iff (n := n) (k := n.log2) h0).1 rfl
  have h2 := log2_le52 h0 h
  have hp := Nat.two_pow_pos (52 - n.log2)
  unfold kf
  refine ⟨?_, ?_⟩
  · have h3 := Nat.mul_le_mul_right (2 ^ (52 - n.log2)) h1.1
    rw [← Nat.pow_add, show n.log2 + (52 - n.log2) = 52 by omega] at h3
    exact h3
  · have h3 := Nat.mul_lt_mul_of_pos_right h1.2 hp
    rw [← Nat.pow_add, show n.log2 + 1 + (52 - n.log2) = 53 by omega] at h3
    exact h3
theorem tow_none (way : Toward) (neg : Bool) (n : Nat) : way.cut neg n 0 = n := by
  cases way <;> simp [Toward.cut, Nat.mod_one]
theorem tow_exact (neg : Bool) (n k : Nat) (h : n ≠ 0) : Toward.even.cut neg (n * 2 ^ k) k = n := by
  have hl : min k ((n * 2 ^ k).log2 + 2) = k := by rw [log2_shift h]; omega
  have hp := Nat.two_pow_pos k
  simp only [Toward.cut, hl, Nat.one_shiftLeft, Nat.mul_div_cancel _ hp, Nat.mul_mod_left, Nat.mul_zero]
  have h1 : ¬ (2 ^ k < 0) := by omega
  have h2 : (2 ^ k == 0) = false := by simp
  simp [h2]

/-- The word of a whole number. -/
def fi (n : Nat) : Nat := double.nearest false n 0
/-- The nearest word to n, however it is written. -/
theorem near_int {n j : Nat} (h0 : n ≠ 0) (h : n < 2 ^ 53) : double.nearest false (n * 2 ^ j) (-(j : Int)) = (n.log2 + 1022) * 4503599627370496 + kf n := by
  have hl := log2_le52 h0 h
  have hb := kf_bounds h0 h
  have hne : n * 2 ^ j ≠ 0 := Nat.ne_of_gt (Nat.mul_pos (Nat.pos_of_ne_zero h0) (Nat.two_pow_pos j))
  unfold Format.nearest
  rw [if_neg hne, log2_shift h0, dbl_frac, dbl_least, dbl_binade, dbl_inf]
  have hlast : max (-(j : Int) + ((n.log2 + j : Nat) : Int) - ((52 : Nat) : Int)) (-1074) = (n.log2 : Int) - 52 := by omega
  simp only [hlast]
  have hkept : Toward.even.cut false ((n * 2 ^ j) <<< (-(j : Int) - ((n.log2 : Int) - 52)).toNat) ((n.log2 : Int) - 52 - -(j : Int)).toNat = kf n := by
    rcases Nat.le_total j (52 - n.log2) with h1 | h1
    · have e1 : ((n.log2 : Int) - 52 - -(j : Int)).toNat = 0 := by omega
      have e2 : (-(j : Int) - ((n.log2 : Int) - 52)).toNat = 52 - n.log2 - j := by omega
      rw [e1, e2, tow_none, Nat.shiftLeft_eq, Nat.mul_assoc, ← Nat.pow_add, show j + (52 - n.log2 - j) = 52 - n.log2 by omega]
      rfl
    · have e1 : (-(j : Int) - ((n.log2 : Int) - 52)).toNat = 0 := by omega
      have e2 : ((n.log2 : Int) - 52 - -(j : Int)).toNat = j - (52 - n.log2) := by omega
      rw [e1, e2, Nat.shiftLeft_zero]
      have e3 : n * 2 ^ j = kf n * 2 ^ (j - (52 - n.log2)) := by
        unfold kf
        rw [Nat.mul_assoc, ← Nat.pow_add, show 52 - n.log2 + (j - (52 - n.log2)) = j by omega]
      rw [e3, tow_exact false _ _ (by omega)]
  have e4 : ((n.log2 : Int) - 52 - -1074).toNat = n.log2 + 1022 := by omega
  rw [hkept, e4, Nat.min_eq_left (by omega)]
  rfl
theorem near_zero (p : Int) : double.nearest false 0 p = 0 := rfl
theorem fi_zero : fi 0 = 0 := rfl
theorem fi_val {n : Nat} (h0 : n ≠ 0) (h : n < 2 ^ 53) : fi n = (n.log2 + 1022) * 4503599627370496 + kf n := by
  have := near_int (j := 0) h0 h
  simpa [fi] using this
/-- The nearest word to n, however it is written, is n's. -/
theorem near_fi {n : Nat} (h : n < 2 ^ 53) (j : Nat) : double.nearest false (n * 2 ^ j) (-(j : Int)) = fi n := by
  rcases Nat.eq_zero_or_pos n with h0 | h0
  · subst h0; rw [Nat.zero_mul, near_zero, fi_zero]
  · rw [near_int (by omega) h, fi_val (by omega) h]

/-- A datum that is the whole number n. -/
def IsN (d : Datum) (n : Nat) : Prop := ∃ j : Nat, d = .number false (n * 2 ^ j) (-(j : Int))
theorem read_fi {n : Nat} (h : n < 2 ^ 53) : IsN (double.read (fi n)) n := by
  rcases Nat.eq_zero_or_pos n with h0 | h0
  · subst h0
    obtain ⟨j, hj⟩ : ∃ j : Nat, j = 1074 := ⟨_, rfl⟩
    have hr : double.read 0 = .number false 0 (-1074) := by decide
    refine ⟨j, ?_⟩
    rw [fi_zero, Nat.zero_mul, hr, hj]
    rfl
  · have hne : n ≠ 0 := by omega
    have hl := log2_le52 hne h
    have hb := kf_bounds hne h
    refine ⟨52 - n.log2, ?_⟩
    rw [fi_val hne h]
    unfold Format.read
    rw [dbl_binade, dbl_inf, dbl_sign, dbl_least]
    have e1 : ((n.log2 + 1022) * 4503599627370496 + kf n) / 9223372036854775808 % 2 = 0 := by omega
    have e2 : ((n.log2 + 1022) * 4503599627370496 + kf n) % 9223372036854775808 = (n.log2 + 1022) * 4503599627370496 + kf n := by omega
    simp only [e1, e2]
    rw [if_neg (by omega), if_pos (by omega)]
    have e3 : 4503599627370496 + ((n.log2 + 1022) * 4503599627370496 + kf n) % 4503599627370496 = n * 2 ^ (52 - n.log2) := by
      have : kf n = n * 2 ^ (52 - n.log2) := rfl
      rw [← this]; omega
    have e4 : ((n.log2 + 1022) * 4503599627370496 + kf n) / 4503599627370496 - 1 = n.log2 + 1022 := by omega
    rw [e3, e4]
    congr 1
    omega
theorem write_isN {d : Datum} {n : Nat} (h : IsN d n) (hn : n < 2 ^ 53) : double.write d = fi n := by
  obtain ⟨j, rfl⟩ := h
  exact near_fi hn j

theorem signed_up (n j k : Nat) (h : j ≤ k) : signed false (n * 2 ^ j) (k - j) = ((n * 2 ^ k : Nat) : Int) := by
  simp only [signed, Bool.false_eq_true, if_false, Nat.shiftLeft_eq]
  rw [Nat.mul_assoc, ← Nat.pow_add, show j + (k - j) = k by omega]
theorem signed_dn (n j k : Nat) (h : j ≤ k) : signed true (n * 2 ^ j) (k - j) = -((n * 2 ^ k : Nat) : Int) := by
  simp only [signed, if_true, Nat.shiftLeft_eq]
  rw [Nat.mul_assoc, ← Nat.pow_add, show j + (k - j) = k by omega]
theorem base_of (i j : Nat) : min (-(i : Int)) (-(j : Int)) = -((max i j : Nat) : Int) := by omega
theorem up_of (i k : Nat) (h : i ≤ k) : (-(i : Int) - -(k : Int)).toNat = k - i := by omega
theorem sum_isN {a b : Datum} {m n : Nat} (ha : IsN a m) (hb : IsN b n) : ∃ d, a.sum b = some d ∧ IsN d (m + n) := by
  obtain ⟨i, rfl⟩ := ha
  obtain ⟨j, rfl⟩ := hb
  refine ⟨_, rfl, max i j, ?_⟩
  simp only [base_of, up_of i _ (Nat.le_max_left i j), up_of j _ (Nat.le_max_right i j), signed_up m i _ (Nat.le_max_left i j), signed_up n j _ (Nat.le_max_right i j)]
  have e : ((m * 2 ^ max i j : Nat) : Int) + ((n * 2 ^ max i j : Nat) : Int) = (((m + n) * 2 ^ max i j : Nat) : Int) := by rw [Nat.add_mul]; omega
  rw [e, Int.natAbs_natCast]
  congr 1
  split
  · rfl
  · exact decide_eq_false (Int.not_lt.mpr (Int.natCast_nonneg _))
theorem diff_isN {a b : Datum} {m n : Nat} (ha : IsN a m) (hb : IsN b n) (h : n ≤ m) : ∃ d, a.sum b.opposite = some d ∧ IsN d (m - n) := by
  obtain ⟨i, rfl⟩ := ha
  obtain ⟨j, rfl⟩ := hb
  refine ⟨_, rfl, max i j, ?_⟩
  simp only [Bool.not_false, base_of, up_of i _ (Nat.le_max_left i j), up_of j _ (Nat.le_max_right i j), signed_up m i _ (Nat.le_max_left i j), signed_dn n j _ (Nat.le_max_right i j)]
  have hle : n * 2 ^ max i j ≤ m * 2 ^ max i j := Nat.mul_le_mul_right _ h
  have e : ((m * 2 ^ max i j : Nat) : Int) + -((n * 2 ^ max i j : Nat) : Int) = (((m - n) * 2 ^ max i j : Nat) : Int) := by rw [Nat.sub_mul]; omega
  rw [e, Int.natAbs_natCast]
  congr 1
  split
  · rfl
  · exact decide_eq_false (Int.not_lt.mpr (Int.natCast_nonneg _))
/-- Sums and differences of whole numbers are exact. -/
theorem add_fi {m n : Nat} (h : m + n < 2 ^ 53) : double.add (fi m) (fi n) = some (fi (m + n)) := by
  obtain ⟨d, hd, hn⟩ := sum_isN (read_fi (show m < 2 ^ 53 by omega)) (read_fi (show n < 2 ^ 53 by omega))
  unfold Format.add
  rw [hd, Option.map_some, write_isN hn h]
theorem sub_fi {m n : Nat} (hm : m < 2 ^ 53) (h : n ≤ m) : double.sub (fi m) (fi n) = some (fi (m - n)) := by
  obtain ⟨d, hd, hn⟩ := diff_isN (read_fi hm) (read_fi (show n < 2 ^ 53 by omega)) h
  unfold Format.sub
  rw [hd, Option.map_some, write_isN hn (by omega)]
theorem order_fi {m n : Nat} (hm : m < 2 ^ 53) (hn : n < 2 ^ 53) : double.order (fi m) (fi n) = some (compare (m : Int) (n : Int)) := by
  obtain ⟨i, hi⟩ := read_fi hm
  obtain ⟨j, hj⟩ := read_fi hn
  unfold Format.order
  rw [hi, hj]
  simp only [Datum.order, base_of, up_of i _ (Nat.le_max_left i j), up_of j _ (Nat.le_max_right i j), signed_up m i _ (Nat.le_max_left i j), signed_up n j _ (Nat.le_max_right i j)]
  congr 1
  have hp := Nat.two_pow_pos (max i j)
  rcases Nat.lt_trichotomy m n with h | h | h
  · have h1 := Nat.mul_lt_mul_of_pos_right h hp
    rw [Int.compare_eq_lt.2 (by omega), Int.compare_eq_lt.2 (by omega)]
  · subst h; simp
  · have h1 := Nat.mul_lt_mul_of_pos_right h hp
    rw [Int.compare_eq_gt.2 (by omega), Int.compare_eq_gt.2 (by omega)]

theorem toInt_fi {n : Nat} (h : n < 2 ^ 53) : (double.read (fi n)).toInt .zero = some (n : Int) := by
  obtain ⟨j, hj⟩ := read_fi h
  rw [hj]
  have e1 : (-(j : Int)).toNat = 0 := by omega
  have e2 : (- -(j : Int)).toNat = j := by omega
  have hc : Toward.zero.cut false ((n * 2 ^ j) <<< 0) j = n := by
    rw [Nat.shiftLeft_zero]
    have hp := Nat.two_pow_pos j
    rcases Nat.eq_zero_or_pos n with h0 | h0
    · subst h0
      rw [Nat.zero_mul]
      simp [Toward.cut]
    · have hl : min j ((n * 2 ^ j).log2 + 2) = j := by rw [log2_shift (by omega)]; omega
      simp only [Toward.cut, hl, Nat.one_shiftLeft, Nat.mul_div_cancel _ hp]
      rfl
  simp only [Datum.toInt, Datum.integral, e1, e2, hc]
  simp [signed]

/-- A word that is equal to a whole number is its word; or it is the other zero. -/
theorem fi_of_eq {x k : Nat} (hx : x < 2 ^ 64) (hk : k < 2 ^ 53) (h : double.order x (fi k) = some .eq) : x = fi k ∨ (k = 0 ∧ x = 9223372036854775808) := by
  obtain ⟨j, hj⟩ := read_fi hk
  unfold Format.order at h
  rw [hj] at h
  have h52 : (4503599627370496 : Nat) = 2 ^ 52 := by decide
  have key : ∀ (s : Bool) (m : Nat) (p : Int), double.read x = .number s m p → ∃ b : Int, b ≤ p ∧ b ≤ -(j : Int) ∧ signed s m (p - b).toNat = ((k * 2 ^ (-b).toNat : Nat) : Int) := by
    intro s m p hr
    rw [hr] at h
    simp only [Datum.order, Option.some.injEq, Int.compare_eq_eq] at h
    refine ⟨min p (-(j : Int)), by omega, by omega, ?_⟩
    rw [h]
    have e : (-(j : Int) - min p (-(j : Int))).toNat = (-(min p (-(j : Int)))).toNat - j := by omega
    rw [e, signed_up k j _ (by omega)]
  unfold Format.read at key
  rw [dbl_binade, dbl_inf, dbl_sign, dbl_least] at key
  have hread : double.read x = (if x % 9223372036854775808 < 4503599627370496 then Datum.number (x / 9223372036854775808 % 2 == 1) (x % 9223372036854775808) (-1074)
      else if x % 9223372036854775808 < 9218868437227405312 then .number (x / 9223372036854775808 % 2 == 1) (4503599627370496 + x % 9223372036854775808 % 4503599627370496) (-1074 + ((x % 9223372036854775808 / 4503599627370496 - 1 : Nat) : Int))
      else if x % 9223372036854775808 = 9218868437227405312 then .infinity (x / 9223372036854775808 % 2 == 1) else .nan (x / 9223372036854775808 % 2 == 1) (x % 9223372036854775808 - 9218868437227405312)) := by
    unfold Format.read
    rw [dbl_binade, dbl_inf, dbl_sign, dbl_least]
  have hsgn : ∀ (s : Bool) (m u : Nat) (N : Nat), signed s m u = (N : Int) → m = 0 ∨ s = false := by
    intro s m u N he
    cases s with
    | false => exact .inr rfl
    | true =>
      left
      simp only [signed, if_true, Nat.shiftLeft_eq] at he
      have hp := Nat.two_pow_pos u
      rcases Nat.eq_zero_or_pos m with h0 | h0
      · exact h0
      · have := Nat.mul_pos h0 hp
        omega
  by_cases h1 : x % 9223372036854775808 < 4503599627370496
  · rw [hread, if_pos h1] at h
    obtain ⟨b, hb1, hb2, hb3⟩ := key _ _ _ (by rw [if_pos h1])
    have hmz : x % 9223372036854775808 = 0 := by
      rcases Nat.eq_zero_or_pos (x % 9223372036854775808) with h0 | h0
      · exact h0
      · rcases hsgn _ _ _ _ hb3 with h2 | h2
        · exact h2
        · rw [h2] at hb3
          simp only [signed, Bool.false_eq_true, if_false, Nat.shiftLeft_eq, Int.natCast_inj] at hb3
          obtain ⟨J, hJ⟩ : ∃ J : Nat, J = 1074 := ⟨_, rfl⟩
          have e : (-b).toNat = J + (-1074 - b).toNat := by omega
          rw [e, Nat.pow_add, ← Nat.mul_assoc] at hb3
          have h3 := Nat.eq_of_mul_eq_mul_right (Nat.two_pow_pos _) hb3
          rcases Nat.eq_zero_or_pos k with h4 | h4
          · rw [h4, Nat.zero_mul] at h3; exact h3
          · have h5 : 2 ^ 53 ≤ 2 ^ J := Nat.pow_le_pow_right (by decide) (by omega)
            have h6 : 2 ^ J ≤ k * 2 ^ J := Nat.le_mul_of_pos_left _ h4
            omega
    have hk0 : k = 0 := by
      rw [hmz] at hb3
      have e : signed (x / 9223372036854775808 % 2 == 1) 0 (-1074 - b).toNat = 0 := by
        simp only [signed, Nat.shiftLeft_eq, Nat.zero_mul]
        split <;> rfl
      rw [e] at hb3
      have hp := Nat.two_pow_pos (-b).toNat
      rcases Nat.eq_zero_or_pos k with h4 | h4
      · exact h4
      · have := Nat.mul_pos h4 hp
        omega
    subst hk0
    rw [fi_zero]
    omega
  · by_cases h2 : x % 9223372036854775808 < 9218868437227405312
    · obtain ⟨b, hb1, hb2, hb3⟩ := key _ _ _ (by rw [if_neg h1, if_pos h2])
      have hs := (hsgn _ _ _ _ hb3).resolve_left (by omega)
      rw [hs] at hb3
      simp only [signed, Bool.false_eq_true, if_false, Nat.shiftLeft_eq, Int.natCast_inj] at hb3
      obtain ⟨R, hR⟩ : ∃ R, R = x % 9223372036854775808 := ⟨_, rfl⟩
      obtain ⟨M, hM⟩ : ∃ M, M = 4503599627370496 + R % 4503599627370496 := ⟨_, rfl⟩
      obtain ⟨Qt, hQ⟩ : ∃ Qt, Qt = R / 4503599627370496 - 1 := ⟨_, rfl⟩
      rw [← hR] at hb3 hb1 h1 h2
      rw [← hM] at hb3
      rw [← hQ] at hb3 hb1
      have hM1 : 2 ^ 52 ≤ M := by omega
      have hM2 : M < 2 ^ 53 := by omega
      have hMl : M.log2 = 52 := by rw [Nat.log2_eq_iff (by omega)]; exact ⟨hM1, hM2⟩
      have hk0 : k ≠ 0 := by
        rintro rfl
        rw [Nat.zero_mul] at hb3
        have := Nat.mul_pos (show 0 < M by omega) (Nat.two_pow_pos (-1074 + (Qt : Int) - b).toNat)
        omega
      have hlg := congrArg Nat.log2 hb3
      rw [log2_shift (by omega), log2_shift hk0, hMl] at hlg
      have hl := log2_le52 hk0 hk
      have hQv : Qt = k.log2 + 1022 := by omega
      have e : (-b).toNat = (52 - k.log2) + (-1074 + (Qt : Int) - b).toNat := by omega
      rw [e, Nat.pow_add, ← Nat.mul_assoc] at hb3
      have h3 := Nat.eq_of_mul_eq_mul_right (Nat.two_pow_pos _) hb3
      left
      rw [fi_val hk0 hk]
      have hkf : kf k = M := h3.symm
      rw [hkf]
      have hsx : x / 9223372036854775808 % 2 = 0 := by
        have : ¬ (x / 9223372036854775808 % 2 = 1) := by simpa using hs
        omega
      omega
    · rw [hread, if_neg h1, if_neg h2] at h
      split at h
      · simp only [Datum.order, Option.some.injEq] at h
        split at h <;> cases h
      · simp [Datum.order] at h

end Go.Proofs.Ytfmbehjllkmfiaa
