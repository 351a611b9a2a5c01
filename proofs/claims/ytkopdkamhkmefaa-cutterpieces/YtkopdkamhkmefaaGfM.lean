/- Polynomials over the field of two elements: what the loops of a program do with them, step by step: division, products bit by bit, squares, Euclid's way, Ben-Or's test, the first irreducible one, coefficients one by one. No program is named here. -/
import Derived.Test.YtkopdkamhkmefaaGfE
import Derived.Test.YtkopdkamhkmefaaLG
import Derived.Lib.BitFns
namespace Go.Proofs.Ytkopdkamhkmefaa
set_option maxRecDepth 100000
open Go Go.RowKit
set_option linter.unusedVariables false
set_option linter.unusedSimpArgs false

/-- How many bits a number takes. -/
def nb2 (x : Nat) : Nat := Lib.bitLen x
theorem nb2_zero : nb2 0 = 0 := by decide
theorem nb2_le {x : Nat} (h : x < 18446744073709551616) : nb2 x ≤ 64 := Lib.bitLen_le x 64 (by omega) h
theorem nb2_cut {x : Nat} (k : Nat) (h : 2 ^ k ≤ x) (hx : x < 18446744073709551616) : nb2 x = k + nb2 (x / 2 ^ k) := Lib.bitLen_shift k x h hx
theorem nb2_half {x : Nat} (h : 0 < x) (hx : x < 18446744073709551616) : nb2 x = 1 + nb2 (x / 2) := Lib.bitLen_half x (by omega) hx
theorem nb2_deg {x n : Nat} (h : Deg x n) (hx : x < 18446744073709551616) : nb2 x = n + 1 := by
  rw [nb2_cut n h.1 hx]
  have h1 : x / 2 ^ n = 1 := by
    apply Nat.div_eq_of_lt_le
    · rw [Nat.one_mul]; exact h.1
    · have := h.2; rw [Nat.pow_succ] at this; omega
  rw [h1]
  have : nb2 1 = 1 := by decide
  omega
theorem deg_nb2 {x : Nat} (h : 0 < x) (hx : x < 18446744073709551616) : Deg x (nb2 x - 1) ∧ 1 ≤ nb2 x ∧ nb2 x ≤ 64 := by
  obtain ⟨n, hn⟩ := deg_ex h
  have := nb2_le hx
  rw [nb2_deg hn hx] at *
  exact ⟨hn, by omega, this⟩
theorem nb2_lt {x : Nat} (hx : x < 18446744073709551616) : x < 2 ^ nb2 x := by
  rcases Nat.eq_zero_or_pos x with h | h
  · subst h; rw [nb2_zero]; decide
  · obtain ⟨h1, h2, _⟩ := deg_nb2 h hx
    have := h1.2
    rwa [show nb2 x - 1 + 1 = nb2 x by omega] at this
theorem nb2_pow {x k : Nat} (h : x < 2 ^ k) (hk : k ≤ 64) : nb2 x ≤ k := Lib.bitLen_le x k hk h
theorem pow_lt64 {x k : Nat} (h : x < 2 ^ k) (hk : k ≤ 64) : x < 18446744073709551616 := Nat.lt_of_lt_of_le h (Nat.pow_le_pow_right (n := 2) (by decide) hk)

theorem pm_pow (k m : Nat) : pm (2 ^ k) m = 2 ^ k * m := by
  induction k with
  | zero => rw [Nat.pow_zero, pm_one_left, Nat.one_mul]
  | succ k ih => rw [Nat.pow_succ, Nat.mul_comm (2 ^ k) 2, pm_two_left, ih, Nat.mul_assoc]
theorem Deg.shl {m d : Nat} (h : Deg m d) (k : Nat) : Deg (2 ^ k * m) (k + d) := by
  rw [← pm_pow]
  exact Deg.mul ⟨Nat.le_refl _, Nat.pow_lt_pow_right (by decide) (Nat.lt_succ_self _)⟩ h

/-- What is left, and whether anything can be. -/
def mdV (a m : Nat) : Nat := if m = 0 then 0 else pr m (nb2 m - 1) a
def mdE (m : Nat) : Int := if m = 0 then 6 else 0
theorem mdE_pos {m : Nat} (h : 0 < m) : mdE m = 0 := if_neg (by omega)
theorem mdV_pos {m : Nat} (a : Nat) (h : 0 < m) : mdV a m = pr m (nb2 m - 1) a := if_neg (by omega)
theorem mdV_eq {a m d : Nat} (hd : Deg m d) (hm : m < 18446744073709551616) : mdV a m = pr m d a := by rw [mdV_pos a hd.pos, nb2_deg hd hm]; rfl
theorem mdV_deg {a m : Nat} (h : 0 < m) (hm : m < 18446744073709551616) : ∃ d, Deg m d ∧ d ≤ 63 ∧ nb2 m = d + 1 ∧ ∀ x, mdV x m = pr m d x := by
  obtain ⟨d, hd⟩ := deg_ex h
  have h1 := nb2_deg hd hm
  have h2 := nb2_le hm
  exact ⟨d, hd, by omega, h1, fun x => mdV_eq hd hm⟩
theorem mdV_lt (a : Nat) {m : Nat} (hm : m < 18446744073709551616) : mdV a m < 18446744073709551616 := by
  rcases Nat.eq_zero_or_pos m with h | h
  · rw [h]; exact (by decide : (0 : Nat) < 18446744073709551616)
  · obtain ⟨d, hd, h63, _, he⟩ := mdV_deg (a := a) h hm
    rw [he]
    exact pow_lt64 (pr_lt hd a) (by omega)

/-- A step of a division: the highest bit goes. -/
theorem mod_down {a m n d : Nat} (ha : Deg a n) (hm : Deg m d) (h : d ≤ n) : a ^^^ (m * 2 ^ (n - d)) < 2 ^ n ∧ Cg m (a ^^^ (m * 2 ^ (n - d))) a := by
  rw [Nat.mul_comm m]
  have h1 := hm.shl (n - d)
  rw [show n - d + d = n by omega] at h1
  refine ⟨ha.xor_same h1, 2 ^ (n - d), ?_⟩
  rw [pm_pow, Nat.xor_comm, xor_self_left]
theorem mod_end {a b m d : Nat} (hm : Deg m d) (h : Cg m b a) (hb : b < 2 ^ d) : b = pr m d a := by
  rw [← (cg_iff hm).1 h, pr_self hm hb]
theorem pr_xor {m d : Nat} (hm : Deg m d) (a b : Nat) : pr m d (a ^^^ b) = pr m d a ^^^ pr m d b := by
  symm
  exact mod_end hm ((cg_pr hm a).symm.xor (cg_pr hm b).symm) (Nat.xor_lt_two_pow (pr_lt hm a) (pr_lt hm b))
theorem pr_pr {m d : Nat} (hm : Deg m d) (a : Nat) : pr m d (pr m d a) = pr m d a := pr_self hm (pr_lt hm a)
theorem pr_two {m d : Nat} (hm : Deg m d) (a : Nat) : pr m d (2 * pr m d a) = pr m d (2 * a) := by
  refine (cg_iff hm).1 ?_
  have h := (cg_pr hm a).symm.left 2
  have e : ∀ x, pm 2 x = 2 * x := fun x => by have := pm_two_left 1 x; rwa [pm_one_left] at this
  rwa [e, e] at h

/-- What is left of a product. -/
def mlV (a b m : Nat) : Nat := if m = 0 then 0 else pr m (nb2 m - 1) (pm a b)
theorem mlV_eq {a b m d : Nat} (hd : Deg m d) (hm : m < 18446744073709551616) : mlV a b m = pr m d (pm a b) := by unfold mlV; rw [if_neg (by have := hd.pos; omega), nb2_deg hd hm]; rfl
theorem mlV_md (a b m : Nat) : mlV a b m = mdV (pm a b) m := rfl
theorem mlV_lt (a b : Nat) {m : Nat} (hm : m < 18446744073709551616) : mlV a b m < 18446744073709551616 := mdV_lt _ hm
theorem bit_take (b i : Nat) : b % 2 ^ (i + 1) = b % 2 ^ i ^^^ (if b / 2 ^ i % 2 = 1 then 2 ^ i else 0) := by
  rw [Nat.mod_pow_succ]
  have hlt := Nat.mod_lt b (Nat.two_pow_pos i)
  rcases Nat.mod_two_eq_zero_or_one (b / 2 ^ i) with h | h
  · rw [h]; simp
  · rw [h, if_pos rfl, Nat.mul_one, Nat.xor_comm]
    apply Nat.eq_of_testBit_eq
    intro j
    have h2 := Nat.two_pow_add_eq_or_of_lt hlt 1
    rw [Nat.mul_one] at h2
    rw [Nat.add_comm, h2, Nat.testBit_or, Nat.testBit_xor, Nat.testBit_two_pow]
    by_cases hj : i = j
    · subst hj
      rw [Nat.testBit_lt_two_pow hlt]
      simp
    · simp [hj]
/-- A product bit by bit: a step. -/
theorem mul_step {m d : Nat} (hm : Deg m d) (a b i p : Nat) (hp : p = pr m d (pm (b % 2 ^ i) a)) :
    (if b / 2 ^ i % 2 = 1 then p ^^^ pr m d (pm (2 ^ i) a) else p) = pr m d (pm (b % 2 ^ (i + 1)) a) := by
  rw [bit_take, xor_pm, pr_xor hm, ← hp]
  split
  · rfl
  · rw [pm_zero_left, pr_zero, Nat.xor_zero]
theorem mul_next {m d : Nat} (hm : Deg m d) (a i : Nat) : pr m d (2 * pr m d (pm (2 ^ i) a)) = pr m d (pm (2 ^ (i + 1)) a) := by
  rw [pr_two hm, Nat.pow_succ, Nat.mul_comm (2 ^ i) 2, pm_two_left]
theorem mul_end {m d : Nat} (hm : Deg m d) (a b : Nat) (hb : b < 18446744073709551616) : pr m d (pm (b % 2 ^ nb2 b) a) = pr m d (pm a b) := by
  rw [Nat.mod_eq_of_lt (nb2_lt hb), pm_comm]
theorem mul_left_pr {m d : Nat} (hm : Deg m d) (a b : Nat) : pr m d (pm (pr m d a) b) = pr m d (pm a b) :=
  (cg_iff hm).1 ((cg_pr hm a).symm.mul (Cg.refl m b))
theorem mul_right_pr {m d : Nat} (hm : Deg m d) (a b : Nat) : pr m d (pm a (pr m d b)) = pr m d (pm a b) :=
  (cg_iff hm).1 ((Cg.refl m a).mul (cg_pr hm b).symm)

/-- What is left of squares. -/
def sqV (a m k : Nat) : Nat := if m = 0 then 0 else pr m (nb2 m - 1) (sqn k a)
theorem sqV_md (a m k : Nat) : sqV a m k = mdV (sqn k a) m := rfl
theorem sqV_lt (a k : Nat) {m : Nat} (hm : m < 18446744073709551616) : sqV a m k < 18446744073709551616 := mdV_lt _ hm
theorem sqV_zero (a m : Nat) : mdV a m = sqV a m 0 := rfl
theorem sqV_next (a m k : Nat) (hm : m < 18446744073709551616) : mlV (sqV a m k) (sqV a m k) m = sqV a m (k + 1) := by
  rcases Nat.eq_zero_or_pos m with h | h
  · subst h; rfl
  · obtain ⟨d, hd, _, _, he⟩ := mdV_deg (a := a) h hm
    rw [mlV_md, sqV_md, sqV_md, he, he, he, mul_left_pr hd, mul_right_pr hd]
    rfl
/-- The number of squarings is right. -/
def sqOk (m : Nat) (n : Int) : Bool := !decide (m = 0) && !decide (n < 0) && !decide (64 < n)

/-- Irreducible, or not. -/
noncomputable def irrB (m : Nat) : Bool := @decide (Irr m) (Classical.propDecidable _)
theorem irrB_true {m : Nat} (h : Irr m) : irrB m = true := by unfold irrB; exact @decide_eq_true _ (Classical.propDecidable _) h
theorem irrB_false {m : Nat} (h : ¬ Irr m) : irrB m = false := by unfold irrB; exact @decide_eq_false _ (Classical.propDecidable _) h
theorem irr_of {m : Nat} (h : irrB m = true) : Irr m := by
  rcases Classical.em (Irr m) with h1 | h1
  · exact h1
  · rw [irrB_false h1] at h; cases h
theorem not_irr_of {m : Nat} (h : irrB m = false) : ¬ Irr m := by
  intro h1
  rw [irrB_true h1] at h; cases h
theorem irrB_small {m : Nat} (h : nb2 m ≤ 1) (hm : m < 18446744073709551616) : irrB m = false := by
  refine irrB_false fun hi => ?_
  have h2 := hi.1
  obtain ⟨h3, _⟩ := deg_nb2 (x := m) (by omega) hm
  have h4 := h3.2
  have : nb2 m - 1 = 0 := by omega
  rw [this] at h4
  simp at h4
  omega
/-- A round of Ben-Or's test. -/
def BenTo (m k : Nat) : Prop := ∀ i, 1 ≤ i → i ≤ k → Co (sqn i 2 ^^^ 2) m
theorem co_cg {m a b c : Nat} (h : Cg m a b) : Co (a ^^^ c) m ↔ Co (b ^^^ c) m := by
  have key : ∀ x y, Cg m x y → Co (x ^^^ c) m → Co (y ^^^ c) m := by
    intro x y hxy hc g hg hgm
    refine hc g ?_ hgm
    have h1 : Dv g (x ^^^ y) := (hxy.of_dv hgm)
    have h2 := h1.xor hg
    rw [Nat.xor_assoc, xor_self_left] at h2
    exact h2
  exact ⟨key a b h, key b a h.symm⟩
theorem ben_cg {m d k p : Nat} (hd : Deg m d) (hm : m < 18446744073709551616) (h : Cg m p (sqn k 2)) : Cg m (sqV p m 1) (sqn (k + 1) 2) := by
  have h1 : sqV p m 1 = pr m d (sqn 1 p) := mdV_eq hd hm
  rw [h1]
  have h2 := h.sqn 1
  rw [← sqn_add, Nat.add_comm] at h2
  exact (cg_pr hd _).symm.trans h2
theorem ben_yes {m k p g : Nat} (h : Cg m p (sqn (k + 1) 2)) (hg : IsGcd (p ^^^ 2) m g) (h1 : g = 1) (hb : BenTo m k) : BenTo m (k + 1) := by
  intro i hi hik
  rcases (show i ≤ k ∨ i = k + 1 by omega) with h2 | h2
  · exact hb i hi h2
  · subst h2
    exact (co_cg h).1 (hg.co.2 h1)
theorem ben_no {m d k p g : Nat} (hd : Deg m d) (hd1 : 1 ≤ d) (hk : 2 * (k + 1) ≤ d) (h : Cg m p (sqn (k + 1) 2)) (hg : IsGcd (p ^^^ 2) m g) (h1 : g ≠ 1) : irrB m = false := by
  refine irrB_false fun hi => h1 ?_
  exact hg.co.1 ((co_cg h).2 ((benor hd hd1).1 hi (k + 1) (by omega) hk))
theorem ben_end {m d k : Nat} (hd : Deg m d) (hd1 : 1 ≤ d) (hk : d < 2 * (k + 1)) (hb : BenTo m k) : irrB m = true :=
  irrB_true ((benor hd hd1).2 fun i h1 h2 => hb i h1 (by omega))

/-- By trying: none of those from 2 to below f divides m. -/
def Tried (m f : Nat) : Prop := ∀ g, 2 ≤ g → g < f → ¬ Dv g m
theorem tried_no {m f d n : Nat} (hd : Deg m d) (hd1 : 1 ≤ d) (hf : Deg f n) (hn : 1 ≤ n) (hn2 : 2 * n ≤ d) (h : Dv f m) : irrB m = false :=
  irrB_false fun hi => (trial hd hd1).1 hi f n hf hn hn2 h
theorem tried_end {m f d n : Nat} (hd : Deg m d) (hd1 : 1 ≤ d) (hf : Deg f n) (hn2 : d < 2 * n) (h : Tried m f) : irrB m = true := by
  refine irrB_true ((trial hd hd1).2 fun g k hg hk hk2 => h g (deg_two hg hk) ?_)
  have h1 := hg.2
  have h2 := hf.1
  have h3 := Nat.pow_le_pow_right (show 0 < 2 by decide) (show k + 1 ≤ n by omega)
  omega

/-- The odd one of degree d with the number s. -/
def oddOf (d s : Nat) : Nat := 2 ^ d + 1 + 2 * s
theorem oddOf_deg {d s : Nat} (h1 : 1 ≤ d) (hs : s < 2 ^ (d - 1)) : Deg (oddOf d s) d := by
  have e : 2 ^ d = 2 * 2 ^ (d - 1) := by rw [← Nat.pow_succ']; congr 1; omega
  unfold oddOf
  refine ⟨by omega, ?_⟩
  rw [Nat.pow_succ]
  omega
/-- m is the first irreducible one from the seed on. -/
def FirstIrr (d seed k m : Nat) : Prop := k < 2 ^ (d - 1) ∧ m = oddOf d ((seed + k) % 2 ^ (d - 1)) ∧ Irr m ∧ ∀ j, j < k → ¬ Irr (oddOf d ((seed + j) % 2 ^ (d - 1)))
theorem firstIrr_uniq {d seed k k' m m' : Nat} (h : FirstIrr d seed k m) (h' : FirstIrr d seed k' m') : m = m' := by
  obtain ⟨_, h1, h2, h3⟩ := h
  obtain ⟨_, h1', h2', h3'⟩ := h'
  rcases Nat.lt_trichotomy k k' with hk | hk | hk
  · exact absurd (h1 ▸ h2) (h3' k hk)
  · rw [h1, h1', hk]
  · exact absurd (h1' ▸ h2') (h3 k' hk)
/-- There is one. -/
theorem odd_some {d : Nat} (h1 : 2 ≤ d) (h2 : d ≤ 53) : ∃ t, t < 2 ^ (d - 1) ∧ Irr (oddOf d t) := by
  obtain ⟨m, hd, ho, hi⟩ := irr_some h1 h2
  have e : 2 ^ d = 2 * 2 ^ (d - 1) := by rw [← Nat.pow_succ']; congr 1; omega
  have ha := hd.1
  have hb := hd.2
  rw [Nat.pow_succ] at hb
  refine ⟨(m - 2 ^ d) / 2, by omega, ?_⟩
  have : oddOf d ((m - 2 ^ d) / 2) = m := by unfold oddOf; omega
  rw [this]
  exact hi
/-- How far it is from the place s on to t, around a circle of H. -/
def toGo (H t s : Nat) : Nat := (t + H - s) % H
theorem toGo_next {H t s : Nat} (ht : t < H) (hs : s < H) (hne : s ≠ t) : toGo H t ((s + 1) % H) < toGo H t s := by
  unfold toGo
  rcases (show s + 1 < H ∨ s + 1 = H by omega) with h | h
  · rw [Nat.mod_eq_of_lt h]
    rcases (show s < t ∨ t < s by omega) with h1 | h1
    · rw [show t + H - (s + 1) = (t - (s + 1)) + H by omega, show t + H - s = (t - s) + H by omega, Nat.add_mod_right, Nat.add_mod_right, Nat.mod_eq_of_lt (by omega), Nat.mod_eq_of_lt (by omega)]
      omega
    · rw [Nat.mod_eq_of_lt (by omega), Nat.mod_eq_of_lt (by omega)]
      omega
  · rw [h, Nat.mod_self, Nat.sub_zero, Nat.add_mod_right, Nat.mod_eq_of_lt ht, Nat.mod_eq_of_lt (by omega)]
    omega
theorem toGo_lt {H t s : Nat} (hH : 0 < H) : toGo H t s < H := Nat.mod_lt _ hH
/-- Behind k steps that found none, none of which was t: k is less than the whole circle. -/
theorem steps_lt {H t s0 k : Nat} (ht : t < H) (h : ∀ j, j < k → (s0 + j) % H ≠ t) : k < H := by
  rcases Nat.lt_or_ge k H with h1 | h1
  · exact h1
  · have h0 : s0 % H < H := Nat.mod_lt _ (by omega)
    have h2 := Nat.mod_lt (t + H - s0 % H) (show 0 < H by omega)
    refine absurd ?_ (h ((t + H - s0 % H) % H) (by omega))
    rw [← Nat.mod_add_mod, Nat.add_mod_mod, show s0 % H + (t + H - s0 % H) = t + H by omega, Nat.add_mod_right, Nat.mod_eq_of_lt ht]
theorem step_mod (s k H : Nat) : ((s + k) % H + 1) % H = (s + (k + 1)) % H := by rw [Nat.mod_add_mod, Nat.add_assoc]

end Go.Proofs.Ytkopdkamhkmefaa
