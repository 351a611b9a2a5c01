/- Polynomials over the field of two elements: remainder, congruence, multiples, common multiples, irreducible ones. No program is named here. -/
import Derived.Test.YtkopdkamhkmefaaGf
namespace Go.Proofs.Ytkopdkamhkmefaa
set_option maxRecDepth 100000
set_option linter.unusedVariables false

theorem even_xor (x s : Nat) (hs : s < 2) : 2 * x ^^^ s = 2 * x + s := by
  apply Nat.eq_of_testBit_eq
  intro i
  cases i with
  | zero => rcases (show s = 0 ∨ s = 1 by omega) with rfl | rfl <;> simp [Nat.testBit_zero]
  | succ i =>
    simp only [Nat.testBit_succ, xor_div2]
    congr 1
    rcases (show s = 0 ∨ s = 1 by omega) with rfl | rfl <;> simp <;> omega

/-- What is left of a by m, of degree d. -/
def pr (m d : Nat) : Nat → Nat
  | 0 => 0
  | a + 1 => if 2 ^ d ≤ 2 * pr m d ((a + 1) / 2) + (a + 1) % 2 then (2 * pr m d ((a + 1) / 2) + (a + 1) % 2) ^^^ m else 2 * pr m d ((a + 1) / 2) + (a + 1) % 2
termination_by a => a
decreasing_by all_goals omega

theorem pr_zero (m d : Nat) : pr m d 0 = 0 := by unfold pr; rfl
theorem pr_step (m d a : Nat) (ha : 0 < a) : pr m d a = if 2 ^ d ≤ 2 * pr m d (a / 2) + a % 2 then (2 * pr m d (a / 2) + a % 2) ^^^ m else 2 * pr m d (a / 2) + a % 2 := by
  cases a with
  | zero => omega
  | succ a => rw [pr]

theorem pr_ex {m d : Nat} (hm : Deg m d) (a : Nat) : ∃ q, a = pm q m ^^^ pr m d a := by
  induction a using half_ind with
  | h0 => exact ⟨0, by rw [pr_zero, pm_zero_left]; rfl⟩
  | h a ha ih =>
    obtain ⟨q, hq⟩ := ih
    have h1 : a = 2 * (a / 2) ^^^ a % 2 := by rw [even_xor _ _ (by omega)]; omega
    have h2 : 2 * pr m d (a / 2) + a % 2 = 2 * pr m d (a / 2) ^^^ a % 2 := (even_xor _ _ (by omega)).symm
    have h3 : a = pm (2 * q) m ^^^ (2 * pr m d (a / 2) + a % 2) := by
      rw [pm_two_left, h2, ← Nat.xor_assoc, ← two_xor, ← hq]
      exact h1
    rw [pr_step m d a ha]
    split
    · refine ⟨2 * q ^^^ 1, ?_⟩
      rw [xor_pm, pm_one_left, Nat.xor_assoc, Nat.xor_comm m, Nat.xor_assoc, Nat.xor_self, Nat.xor_zero]
      exact h3
    · exact ⟨2 * q, h3⟩

section
variable {m d : Nat} (hm : Deg m d)
include hm
theorem pr_lt (a : Nat) : pr m d a < 2 ^ d := by
  induction a using half_ind with
  | h0 => rw [pr_zero]; exact Nat.two_pow_pos d
  | h a ha ih =>
    rw [pr_step m d a ha]
    split
    · rename_i h1
      have h2 : Deg (2 * pr m d (a / 2) + a % 2) d := ⟨h1, by rw [Nat.pow_succ]; omega⟩
      exact h2.xor_same hm
    · omega
theorem low_mul {q : Nat} (h : pm q m < 2 ^ d) : q = 0 := by
  rcases Nat.eq_zero_or_pos q with h0 | h0
  · exact h0
  · obtain ⟨n, hn⟩ := deg_ex h0
    have h1 := (hn.mul hm).1
    have h2 := Nat.pow_le_pow_right (show 0 < 2 by decide) (show d ≤ n + d by omega)
    omega
theorem pr_uniq {q q' r r' : Nat} (hr : r < 2 ^ d) (hr' : r' < 2 ^ d) (h : pm q m ^^^ r = pm q' m ^^^ r') : q = q' ∧ r = r' := by
  have h1 : pm (q ^^^ q') m = r ^^^ r' := by
    rw [xor_pm]
    have h2 : (pm q m ^^^ r) ^^^ (pm q' m ^^^ r') = 0 := by rw [h, Nat.xor_self]
    rw [xor4] at h2
    exact xor_eq_zero h2
  have h2 : q ^^^ q' = 0 := low_mul hm (by rw [h1]; exact Nat.xor_lt_two_pow hr hr')
  have h3 : q = q' := xor_eq_zero h2
  subst h3
  refine ⟨rfl, xor_eq_zero ?_⟩
  rw [← h1, Nat.xor_self, pm_zero_left]
end

/-- a and b are congruent by m. -/
def Cg (m a b : Nat) : Prop := ∃ q, a ^^^ b = pm q m
/-- a is a multiple of f. -/
def Dv (f a : Nat) : Prop := ∃ q, a = pm q f
section
variable {m a b c d e : Nat}
theorem Cg.refl (m a : Nat) : Cg m a a := ⟨0, by rw [Nat.xor_self, pm_zero_left]⟩
theorem Cg.symm (h : Cg m a b) : Cg m b a := by obtain ⟨q, hq⟩ := h; exact ⟨q, by rw [Nat.xor_comm]; exact hq⟩
theorem Cg.trans (h : Cg m a b) (h' : Cg m b c) : Cg m a c := by
  obtain ⟨q, hq⟩ := h
  obtain ⟨q', hq'⟩ := h'
  refine ⟨q ^^^ q', ?_⟩
  rw [xor_pm, ← hq, ← hq', Nat.xor_assoc, xor_self_left]
theorem Cg.xor (h : Cg m a b) (h' : Cg m c d) : Cg m (a ^^^ c) (b ^^^ d) := by
  obtain ⟨q, hq⟩ := h
  obtain ⟨q', hq'⟩ := h'
  exact ⟨q ^^^ q', by rw [xor_pm, ← hq, ← hq', xor4]⟩
theorem Cg.left (h : Cg m a b) (c : Nat) : Cg m (pm c a) (pm c b) := by
  obtain ⟨q, hq⟩ := h
  exact ⟨pm c q, by rw [← pm_xor, hq, pm_assoc]⟩
theorem Cg.mul (h : Cg m a b) (h' : Cg m c d) : Cg m (pm a c) (pm b d) := by
  have h1 := h'.left a
  have h2 := h.left d
  rw [pm_comm d a, pm_comm d b] at h2
  exact h1.trans h2
theorem cg_pr (hm : Deg m d) (a : Nat) : Cg m a (pr m d a) := by
  obtain ⟨q, hq⟩ := pr_ex hm a
  refine ⟨q, ?_⟩
  conv => lhs; lhs; rw [hq]
  rw [Nat.xor_assoc, Nat.xor_self, Nat.xor_zero]
theorem cg_eq (hm : Deg m d) (h : Cg m a b) (ha : a < 2 ^ d) (hb : b < 2 ^ d) : a = b := by
  obtain ⟨q, hq⟩ := h
  have h0 : q = 0 := low_mul hm (by rw [← hq]; exact Nat.xor_lt_two_pow ha hb)
  rw [h0, pm_zero_left] at hq
  exact xor_eq_zero hq
theorem cg_iff (hm : Deg m d) : Cg m a b ↔ pr m d a = pr m d b := by
  constructor
  · intro h
    exact cg_eq hm (((cg_pr hm a).symm.trans h).trans (cg_pr hm b)) (pr_lt hm a) (pr_lt hm b)
  · intro h
    have h1 := cg_pr hm a
    rw [h] at h1
    exact h1.trans (cg_pr hm b).symm
theorem pr_self (hm : Deg m d) (h : a < 2 ^ d) : pr m d a = a := (cg_eq hm (cg_pr hm a) h (pr_lt hm a)).symm

theorem dv_cg : Dv m a ↔ Cg m a 0 := by
  constructor
  · rintro ⟨q, rfl⟩; exact ⟨q, by rw [Nat.xor_zero]⟩
  · rintro ⟨q, hq⟩; exact ⟨q, by rw [Nat.xor_zero] at hq; exact hq⟩
theorem dv_pr (hm : Deg m d) : Dv m a ↔ pr m d a = 0 := by rw [dv_cg, cg_iff hm, pr_zero]
theorem Dv.refl (f : Nat) : Dv f f := ⟨1, (pm_one_left f).symm⟩
theorem dv_zero (f : Nat) : Dv f 0 := ⟨0, (pm_zero_left f).symm⟩
theorem Dv.trans (h : Dv a b) (h' : Dv b c) : Dv a c := by
  obtain ⟨q, rfl⟩ := h
  obtain ⟨q', rfl⟩ := h'
  exact ⟨pm q' q, (pm_assoc _ _ _).symm⟩
theorem Dv.xor (h : Dv a b) (h' : Dv a c) : Dv a (b ^^^ c) := by
  obtain ⟨q, rfl⟩ := h
  obtain ⟨q', rfl⟩ := h'
  exact ⟨q ^^^ q', (xor_pm _ _ _).symm⟩
theorem Dv.left (h : Dv a b) (c : Nat) : Dv a (pm c b) := by
  obtain ⟨q, rfl⟩ := h
  exact ⟨pm c q, (pm_assoc _ _ _).symm⟩
theorem Dv.right (h : Dv a b) (c : Nat) : Dv a (pm b c) := by rw [pm_comm]; exact h.left c
theorem Dv.le (h : Dv a b) (hb : 0 < b) : 0 < a ∧ ∃ n k, Deg a n ∧ Deg b (n + k) := by
  obtain ⟨q, rfl⟩ := h
  have ha : 0 < a := by
    rcases Nat.eq_zero_or_pos a with h | h
    · rw [h, pm_zero] at hb; omega
    · exact h
  have hq : 0 < q := by
    rcases Nat.eq_zero_or_pos q with h | h
    · rw [h, pm_zero_left] at hb; omega
    · exact h
  obtain ⟨n, hn⟩ := deg_ex ha
  obtain ⟨k, hk⟩ := deg_ex hq
  exact ⟨ha, n, k, hn, by rw [Nat.add_comm]; exact hk.mul hn⟩
end

/-- A common factor that is a sum of multiples. -/
theorem bez (b : Nat) : ∀ a, ∃ g u v, Dv g a ∧ Dv g b ∧ g = pm u a ^^^ pm v b := by
  induction b using Nat.strongRecOn with
  | ind b ih =>
    intro a
    rcases Nat.eq_zero_or_pos b with h0 | h0
    · subst h0
      exact ⟨a, 1, 0, Dv.refl a, dv_zero a, by rw [pm_one_left, pm_zero, Nat.xor_zero]⟩
    · obtain ⟨d, hd⟩ := deg_ex h0
      obtain ⟨q, hq⟩ := pr_ex hd a
      have hlt : pr b d a < b := Nat.lt_of_lt_of_le (pr_lt hd a) hd.1
      obtain ⟨g, u, v, h1, h2, h3⟩ := ih _ hlt b
      have hr : pr b d a = a ^^^ pm q b := by
        have := xor_self_left (pm q b) (pr b d a)
        rw [← hq, Nat.xor_comm] at this
        exact this.symm
      refine ⟨g, v, u ^^^ pm v q, ?_, h1, ?_⟩
      · rw [hq]; exact (h1.left q).xor h2
      · rw [h3, hr, pm_xor, xor_pm, pm_assoc, Nat.xor_comm (pm u b), Nat.xor_assoc]
        congr 1
        exact Nat.xor_comm _ _

/-- m is no product of two of degree 1 or more. -/
def Irr (m : Nat) : Prop := 2 ≤ m ∧ ∀ f q, m = pm q f → f = 1 ∨ q = 1
section
variable {m a b c d : Nat}
theorem irr_bez (hm : Irr m) (h : ¬ Dv m a) : ∃ u v, 1 = pm u a ^^^ pm v m := by
  obtain ⟨g, u, v, h1, ⟨q, hq⟩, h3⟩ := bez m a
  rcases hm.2 g q hq with h4 | h4
  · subst h4; exact ⟨u, v, h3⟩
  · rw [h4, pm_one_left] at hq
    exact absurd (hq ▸ h1) h
theorem irr_inv (hm : Irr m) (h : ¬ Dv m a) : ∃ u, Cg m (pm u a) 1 := by
  obtain ⟨u, v, h1⟩ := irr_bez hm h
  refine ⟨u, v, ?_⟩
  rw [h1, xor_self_left]
theorem irr_cancel (hm : Irr m) (h : ¬ Dv m a) (hc : Cg m (pm a b) (pm a c)) : Cg m b c := by
  obtain ⟨u, hu⟩ := irr_inv hm h
  have h1 := hc.left u
  rw [← pm_assoc, ← pm_assoc] at h1
  have h2 : ∀ x, Cg m (pm (pm u a) x) x := fun x => by
    have := hu.left x
    rw [pm_one, pm_comm x] at this
    exact this
  exact ((h2 b).symm.trans h1).trans (h2 c)
theorem irr_euclid (hm : Irr m) (h : Dv m (pm a b)) : Dv m a ∨ Dv m b := by
  by_cases ha : Dv m a
  · exact .inl ha
  · right
    rw [dv_cg] at h ⊢
    have h0 : pm a 0 = 0 := pm_zero a
    exact irr_cancel hm ha (by rw [h0]; exact h)
theorem irr_not_one (hm : Irr m) : ¬ Dv m 1 := by
  intro h
  obtain ⟨_, n, k, h1, h2⟩ := h.le (by decide)
  have h3 := h2.uniq (show Deg 1 0 from ⟨by decide, by decide⟩)
  have h4 := h1.2
  have : n = 0 := by omega
  subst this
  have := hm.1
  simp at h4
  omega
theorem irr_low (hm : Irr m) (hd : Deg m d) (h0 : 0 < a) (h : a < 2 ^ d) : ¬ Dv m a := by
  intro h1
  have h2 := (dv_pr hd).1 h1
  rw [pr_self hd h] at h2
  omega
/-- One that has a factor. -/
theorem irr_not (h2 : 2 ≤ m) (h : ¬ Irr m) : ∃ f q, m = pm q f ∧ 2 ≤ f ∧ 2 ≤ q := by
  apply Classical.byContradiction
  intro hn
  refine h ⟨h2, fun f q he => ?_⟩
  rcases Nat.eq_zero_or_pos f with hf | hf
  · rw [hf, pm_zero] at he; omega
  · rcases Nat.eq_zero_or_pos q with hq | hq
    · rw [hq, pm_zero_left] at he; omega
    · rcases Nat.lt_or_ge f 2 with h3 | h3
      · exact .inl (by omega)
      · rcases Nat.lt_or_ge q 2 with h4 | h4
        · exact .inr (by omega)
        · exact absurd ⟨f, q, he, h3, h4⟩ hn
theorem deg_ge {f n : Nat} (h : Deg f n) (h2 : 2 ≤ f) : 1 ≤ n := by
  rcases Nat.eq_zero_or_pos n with h0 | h0
  · subst h0; have := h.2; simp at this; omega
  · exact h0
theorem deg_two {f n : Nat} (h : Deg f n) (hn : 1 ≤ n) : 2 ≤ f := by
  have := Nat.pow_le_pow_right (show 0 < 2 by decide) hn
  have := h.1; omega
/-- Each has an irreducible factor. -/
theorem irr_factor : ∀ m, 2 ≤ m → ∃ f, Irr f ∧ Dv f m := by
  intro m
  induction m using Nat.strongRecOn with
  | ind m ih =>
    intro h2
    by_cases hm : Irr m
    · exact ⟨m, hm, Dv.refl m⟩
    · obtain ⟨f, q, he, hf, hq⟩ := irr_not h2 hm
      obtain ⟨n, hn⟩ := deg_ex (show 0 < f by omega)
      obtain ⟨k, hk⟩ := deg_ex (show 0 < q by omega)
      have h1 := hk.mul hn
      have h3 := deg_ge hk hq
      have hlt : f < m := by
        have h4 := h1.1; have h5 := hn.2
        have h6 := Nat.pow_le_pow_right (show 0 < 2 by decide) (show n + 1 ≤ k + n by omega)
        rw [he]; omega
      obtain ⟨p, hp, hd⟩ := ih f hlt hf
      exact ⟨p, hp, hd.trans ⟨q, he⟩⟩
/-- One that is not irreducible has an irreducible factor of at most half its degree. -/
theorem irr_small (hd : Deg m d) (h2 : 2 ≤ m) (h : ¬ Irr m) : ∃ f n, Irr f ∧ Dv f m ∧ Deg f n ∧ 1 ≤ n ∧ 2 * n ≤ d := by
  obtain ⟨f, q, he, hf, hq⟩ := irr_not h2 h
  obtain ⟨n, hn⟩ := deg_ex (show 0 < f by omega)
  obtain ⟨k, hk⟩ := deg_ex (show 0 < q by omega)
  have h1 := hk.mul hn
  rw [← he] at h1
  have h3 := h1.uniq hd
  have main : ∀ g j, Deg g j → 2 ≤ g → Dv g m → 2 * j ≤ d → ∃ f n, Irr f ∧ Dv f m ∧ Deg f n ∧ 1 ≤ n ∧ 2 * n ≤ d := by
    intro g j hg hg2 hgm hj
    obtain ⟨p, hp, hpg⟩ := irr_factor g hg2
    obtain ⟨hp0, i, x, hpi, hgi⟩ := hpg.le hg.pos
    have := hgi.uniq hg
    exact ⟨p, i, hp, hpg.trans hgm, hpi, deg_ge hpi hp.1, by omega⟩
  rcases Nat.le_total n k with h4 | h4
  · exact main f n hn hf ⟨q, he⟩ (by omega)
  · exact main q k hk hq ⟨f, by rw [pm_comm]; exact he⟩ (by omega)
end

end Go.Proofs.Ytkopdkamhkmefaa
