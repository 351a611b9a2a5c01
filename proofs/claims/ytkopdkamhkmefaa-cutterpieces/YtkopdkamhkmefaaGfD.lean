/- Polynomials over the field of two elements: which irreducible ones divide x squared k times less x; Rabin's test and Ben-Or's; trying all factors. No program is named here. -/
import Derived.Test.YtkopdkamhkmefaaGfC
namespace Go.Proofs.Ytkopdkamhkmefaa
set_option maxRecDepth 100000
set_option linter.unusedVariables false

theorem nat_split (y : Nat) : y = pm 2 (y / 2) ^^^ y % 2 := by
  have h : pm 2 (y / 2) = 2 * (y / 2) := by
    have := pm_two_left 1 (y / 2)
    rw [pm_one_left] at this
    exact this
  rw [h, even_xor _ _ (by omega)]
  omega
/-- If x stays, all stay. -/
theorem stays_all {m r : Nat} (h : Cg m (sqn r 2) 2) (y : Nat) : Cg m (sqn r y) y := by
  induction y using half_ind with
  | h0 => rw [sqn_zero]; exact Cg.refl _ _
  | h y hy ih =>
    have h1 : Cg m (sqn r (pm 2 (y / 2) ^^^ y % 2)) (pm 2 (y / 2) ^^^ y % 2) := by
      rw [sqn_xor, sqn_pm]
      refine (h.mul ih).xor ?_
      rcases Nat.mod_two_eq_zero_or_one y with h2 | h2
      · rw [h2, sqn_zero]; exact Cg.refl _ _
      · rw [h2, sqn_one]; exact Cg.refl _ _
    rw [← nat_split y] at h1
    exact h1
theorem hv_noughts (n y : Nat) : hv (List.replicate n 0) y = pw y n := by
  induction n with
  | zero => rfl
  | succ n ih =>
    rw [List.replicate_succ', hv_snoc, ih, Nat.xor_zero]
    rfl
theorem hv_circle (r y : Nat) (hr : 1 ≤ r) : hv (List.replicate (2 ^ r - 2) 0 ++ [1] ++ [0]) y = sqn r y ^^^ y := by
  have h2 := Nat.pow_le_pow_right (show 0 < 2 by decide) hr
  have e : pw y (2 ^ r) = pm (pm (pw y (2 ^ r - 2)) y) y := by
    have e1 : 2 ^ r = 2 ^ r - 2 + 1 + 1 := by omega
    conv => lhs; rw [e1]
    rfl
  rw [hv_snoc, hv_snoc, hv_noughts, Nat.xor_zero, xor_pm, pm_one_left, sqn_pw, e]

section
variable {m d : Nat} (hm : Irr m) (hd : Deg m d)
include hm hd
theorem circle_ge {r : Nat} (hr : 1 ≤ r) (h : Cg m (sqn r 2) 2) : d ≤ r := by
  have h2 := Nat.pow_le_pow_right (show 0 < 2 by decide) hr
  have h1 := root_bound hm hd (2 ^ r) (List.replicate (2 ^ r - 2) 0 ++ [1] ++ [0]) (by simp; omega) (List.range (2 ^ d)) List.nodup_range (fun y hy => List.mem_range.1 hy) (fun y _ => by
    rw [hv_circle r y hr]
    obtain ⟨q, hq⟩ := stays_all h y
    exact ⟨q, hq⟩)
  rw [List.length_range] at h1
  rcases Nat.lt_or_ge r d with h3 | h3
  · have := Nat.pow_lt_pow_right (show 1 < 2 by decide) h3
    omega
  · exact h3
theorem circle_mul (q : Nat) (a : Nat) : Cg m (sqn (d * q) a) a := by
  induction q with
  | zero => exact Cg.refl _ _
  | succ q ih =>
    rw [Nat.mul_succ, Nat.add_comm, sqn_add]
    exact (ih.sqn d).trans (fermat hm hd a)
theorem circle_mod (k a : Nat) : Cg m (sqn k a) (sqn (k % d) a) := by
  have e : k = d * (k / d) + k % d := (Nat.div_add_mod k d).symm
  have h := circle_mul hm hd (k / d) (sqn (k % d) a)
  rw [← sqn_add, ← e] at h
  exact h
/-- An irreducible one of degree d divides x squared k times less x just if d divides k. -/
theorem circle_dvd {k : Nat} (h : Cg m (sqn k 2) 2) : d ∣ k := by
  have h1 := (circle_mod hm hd k 2).symm.trans h
  rcases Nat.eq_zero_or_pos (k % d) with h0 | h0
  · exact Nat.dvd_of_mod_eq_zero h0
  · have h2 := circle_ge hm hd h0 h1
    have h3 : 0 < d := by
      rcases Nat.eq_zero_or_pos d with h4 | h4
      · subst h4; have h5 := hd.2; have h6 := hm.1; simp at h5; omega
      · exact h4
    have := Nat.mod_lt k h3
    omega
theorem dvd_circle {k : Nat} (h : d ∣ k) : Cg m (sqn k 2) 2 := by
  obtain ⟨q, rfl⟩ := h
  exact circle_mul hm hd q 2
end

/-- Nothing but 1 divides both. -/
def Co (a b : Nat) : Prop := ∀ g, Dv g a → Dv g b → g = 1
theorem cg_dv {m a b : Nat} : Cg m a b ↔ Dv m (a ^^^ b) := Iff.rfl
theorem Cg.of_dv {f m a b : Nat} (h : Cg m a b) (hf : Dv f m) : Cg f a b := hf.trans h

theorem co_low {m d k : Nat} (hm : Irr m) (hd : Deg m d) (h1 : 1 ≤ k) (h2 : k < d) : Co (sqn k 2 ^^^ 2) m := by
  intro g hg hgm
  obtain ⟨q, hq⟩ := hgm
  rcases hm.2 g q hq with h3 | h3
  · exact h3
  · rw [h3, pm_one_left] at hq
    rw [← hq] at hg
    have := Nat.le_of_dvd (by omega) (circle_dvd hm hd (cg_dv.2 hg))
    omega
/-- Ben-Or's test. -/
theorem benor {m d : Nat} (hd : Deg m d) (h1 : 1 ≤ d) : Irr m ↔ ∀ i, 1 ≤ i → 2 * i ≤ d → Co (sqn i 2 ^^^ 2) m := by
  constructor
  · intro hm i hi hi2
    exact co_low hm hd hi (by omega)
  · intro h
    apply Classical.byContradiction
    intro hn
    obtain ⟨f, n, hf, hfm, hfn, hn1, hn2⟩ := irr_small hd (deg_two hd h1) hn
    have h2 := h n hn1 hn2 f (fermat hf hfn 2) hfm
    have := hf.1
    omega
/-- Rabin's test: K holds numbers of which each proper divisor of d divides one. -/
theorem rabin {m d : Nat} (hd : Deg m d) (h1 : 1 ≤ d) (K : Nat → Prop) (hK : ∀ e, e ∣ d → e < d → ∃ k, K k ∧ e ∣ k) (hK2 : ∀ k, K k → 1 ≤ k ∧ k < d) :
    Irr m ↔ Cg m (sqn d 2) 2 ∧ ∀ k, K k → Co (sqn k 2 ^^^ 2) m := by
  constructor
  · intro hm
    exact ⟨fermat hm hd 2, fun k hk => co_low hm hd (hK2 k hk).1 (hK2 k hk).2⟩
  · rintro ⟨hc, h⟩
    obtain ⟨f, hf, hfm⟩ := irr_factor m (deg_two hd h1)
    obtain ⟨hf0, e, x, hfe, hme⟩ := hfm.le hd.pos
    have hx : e + x = d := hme.uniq hd
    have he := circle_dvd hf hfe (hc.of_dv hfm)
    rcases Nat.lt_or_ge e d with h2 | h2
    · obtain ⟨k, hk, hek⟩ := hK e he h2
      have h3 := h k hk f (dvd_circle hf hfe hek) hfm
      have := hf.1
      omega
    · obtain ⟨q, hq⟩ := hfm
      have hq0 : 0 < q := by
        rcases Nat.eq_zero_or_pos q with h4 | h4
        · rw [h4, pm_zero_left] at hq; have := hd.pos; omega
        · exact h4
      obtain ⟨j, hj⟩ := deg_ex hq0
      have h5 := hj.mul hfe
      rw [← hq] at h5
      have h6 := h5.uniq hd
      have h7 : j = 0 := by omega
      subst h7
      have h8 : q = 1 := by have h9 := hj.1; have h10 := hj.2; simp at h9 h10; omega
      rw [h8, pm_one_left] at hq
      rw [hq]
      exact hf
/-- By trying all up to half the degree. -/
theorem trial {m d : Nat} (hd : Deg m d) (h1 : 1 ≤ d) : Irr m ↔ ∀ f n, Deg f n → 1 ≤ n → 2 * n ≤ d → ¬ Dv f m := by
  constructor
  · intro hm f n hf hn hn2 hfm
    obtain ⟨q, hq⟩ := hfm
    rcases hm.2 f q hq with h2 | h2
    · have := deg_two hf hn; omega
    · rw [h2, pm_one_left] at hq
      rw [← hq] at hf
      have := hf.uniq hd
      omega
  · intro h
    apply Classical.byContradiction
    intro hn
    obtain ⟨f, n, hf, hfm, hfn, hn1, hn2⟩ := irr_small hd (deg_two hd h1) hn
    exact h f n hfn hn1 hn2 hfm
/-- A product of two of degree 1 or more. -/
theorem prod_not_irr {a b : Nat} (ha : 2 ≤ a) (hb : 2 ≤ b) : ¬ Irr (pm a b) := by
  intro h
  rcases h.2 b a rfl with h1 | h1 <;> omega

end Go.Proofs.Ytkopdkamhkmefaa
