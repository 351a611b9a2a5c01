/- Polynomials over the field of two elements: common factors by Euclid's way; Rabin's test as a reckoning; an odd irreducible one of each degree from 2 to 53. No program is named here. -/
import Derived.Test.YtkopdkamhkmefaaGfD
namespace Go.Proofs.Ytkopdkamhkmefaa
set_option maxRecDepth 100000
set_option linter.unusedVariables false

theorem dv_one {g : Nat} (h : Dv g 1) : g = 1 := by
  obtain ⟨_, n, k, h1, h2⟩ := h.le (by decide)
  have h3 := h2.uniq (show Deg 1 0 from ⟨by decide, by decide⟩)
  have h4 : n = 0 := by omega
  subst h4
  have h5 := h1.1; have h6 := h1.2
  simp at h5 h6
  omega
/-- Euclid's step: the common factors stay. -/
theorem common_step {a b d g : Nat} (hb : Deg b d) : (Dv g a ∧ Dv g b) ↔ (Dv g b ∧ Dv g (pr b d a)) := by
  obtain ⟨q, hq⟩ := pr_ex hb a
  have hr : pr b d a = a ^^^ pm q b := by
    have := xor_self_left (pm q b) (pr b d a)
    rw [← hq, Nat.xor_comm] at this
    exact this.symm
  constructor
  · rintro ⟨h1, h2⟩
    exact ⟨h2, by rw [hr]; exact h1.xor (h2.left q)⟩
  · rintro ⟨h1, h2⟩
    exact ⟨by rw [hq]; exact (h1.left q).xor h2, h1⟩
/-- What Euclid's way ends with has just the common factors. -/
def IsGcd (a b x : Nat) : Prop := ∀ g, (Dv g a ∧ Dv g b) ↔ Dv g x
theorem isGcd_zero (a : Nat) : IsGcd a 0 a := fun g => ⟨fun h => h.1, fun h => ⟨h, dv_zero g⟩⟩
theorem IsGcd.step {a b d x : Nat} (hb : Deg b d) (h : IsGcd b (pr b d a) x) : IsGcd a b x := fun g => (common_step hb).trans (h g)
theorem IsGcd.co {a b x : Nat} (h : IsGcd a b x) : Co a b ↔ x = 1 := by
  constructor
  · intro hc
    have := (h x).2 (Dv.refl x)
    exact hc x this.1 this.2
  · rintro rfl g h1 h2
    exact dv_one ((h g).1 ⟨h1, h2⟩)
theorem IsGcd.symm {a b x : Nat} (h : IsGcd a b x) : IsGcd b a x := fun g => ⟨fun ⟨h1, h2⟩ => (h g).1 ⟨h2, h1⟩, fun h1 => ⟨((h g).2 h1).2, ((h g).2 h1).1⟩⟩
/-- Two that divide one another are one. -/
theorem dv_antisymm {a b : Nat} (h : Dv a b) (h' : Dv b a) : a = b := by
  rcases Nat.eq_zero_or_pos b with h0 | h0
  · subst h0; obtain ⟨q, hq⟩ := h'; rw [pm_zero] at hq; exact hq
  · obtain ⟨ha, n, k, h1, h2⟩ := h.le h0
    obtain ⟨hb, n', k', h3, h4⟩ := h'.le ha
    have e1 := h4.uniq h1
    have e2 := h3.uniq h2
    obtain ⟨q, rfl⟩ := h
    have hq0 : 0 < q := by
      rcases Nat.eq_zero_or_pos q with h5 | h5
      · rw [h5, pm_zero_left] at h0; omega
      · exact h5
    obtain ⟨j, hj⟩ := deg_ex hq0
    have e3 := (hj.mul h1).uniq h2
    have hj0 : j = 0 := by omega
    subst hj0
    have h9 := hj.1; have h10 := hj.2; simp at h9 h10
    have : q = 1 := by omega
    subst this
    rw [pm_one_left]
theorem IsGcd.uniq {a b x y : Nat} (h : IsGcd a b x) (h' : IsGcd a b y) : x = y :=
  dv_antisymm ((h' x).1 ((h x).2 (Dv.refl x))) ((h y).1 ((h' y).2 (Dv.refl y)))

/-! The same, to be reckoned out. -/
def mulF : Nat → Nat → Nat → Nat
  | 0, _, _ => 0
  | k + 1, a, b => 2 * mulF k (a / 2) b ^^^ (if a % 2 = 1 then b else 0)
theorem mulF_eq (k : Nat) : ∀ a b, a < 2 ^ k → mulF k a b = pm a b := by
  induction k with
  | zero => intro a b h; simp at h; subst h; rw [pm_zero_left]; rfl
  | succ k ih => intro a b h; rw [Nat.pow_succ] at h; rw [mulF, ih _ _ (by omega), ← pm_step]
def modF (m p : Nat) : Nat → Nat → Nat
  | 0, _ => 0
  | k + 1, a => (fun t => if p ≤ t then t ^^^ m else t) (2 * modF m p k (a / 2) + a % 2)
theorem modF_eq (m d : Nat) (hd : Deg m d) (k : Nat) : ∀ a, a < 2 ^ k → modF m (2 ^ d) k a = pr m d a := by
  induction k with
  | zero => intro a h; simp at h; subst h; rw [pr_zero]; rfl
  | succ k ih =>
    intro a h
    rw [Nat.pow_succ] at h
    rcases Nat.eq_zero_or_pos a with h0 | h0
    · subst h0
      have := ih 0 (Nat.two_pow_pos k)
      rw [pr_zero] at this
      have hp := Nat.two_pow_pos d
      simp only [modF, Nat.zero_div, this]
      rw [if_neg (by omega), pr_zero]
    · rw [pr_step m d a h0, modF, ih _ (by omega)]
/-- x squared i times, what is left of it. -/
def sqF (m p : Nat) : Nat → Nat
  | 0 => modF m p 2 2
  | i + 1 => (fun t => modF m p 128 (mulF 64 t t)) (sqF m p i)
theorem sqF_eq {m d : Nat} (hd : Deg m d) (hd2 : d ≤ 63) (i : Nat) : sqF m (2 ^ d) i = pr m d (sqn i 2) := by
  induction i with
  | zero => exact modF_eq m d hd 2 2 (by decide)
  | succ i ih =>
    have hlt := pr_lt hd (sqn i 2)
    have h64 := Nat.pow_le_pow_right (show 0 < 2 by decide) (show d ≤ 63 by omega)
    simp only [sqF, ih]
    rw [mulF_eq 64 _ _ (by omega), modF_eq m d hd 128 _ ?_]
    · rw [← cg_iff hd]
      exact ((cg_pr hd _).mul (cg_pr hd _)).symm
    · rcases Nat.eq_zero_or_pos (pr m d (sqn i 2)) with h0 | h0
      · rw [h0, pm_zero]; decide
      · obtain ⟨n, hn⟩ := deg_ex h0
        have h1 := (hn.mul hn).2
        have hn63 : n ≤ 63 := by
          rcases Nat.lt_or_ge 63 n with h2 | h2
          · have h3 := Nat.pow_le_pow_right (show 0 < 2 by decide) (show 64 ≤ n by omega)
            have h4 := hn.1; omega
          · exact h2
        have h5 := Nat.pow_le_pow_right (show 0 < 2 by decide) (show n + n + 1 ≤ 128 by omega)
        omega
/-- Euclid's way, k steps of it. -/
def gcdF : Nat → Nat → Nat → Nat
  | 0, _, _ => 0
  | k + 1, a, b => if b = 0 then a else gcdF k b (modF b (2 ^ Nat.log2 b) 64 a)
theorem deg_log {b : Nat} (h : b ≠ 0) : Deg b (Nat.log2 b) := ⟨Nat.log2_self_le h, Nat.lt_log2_self⟩
theorem gcdF_eq (k : Nat) : ∀ a b, a < 2 ^ 64 → b < 2 ^ 64 → gcdF k a b ≠ 0 → IsGcd a b (gcdF k a b) := by
  induction k with
  | zero => intro a b _ _ h; exact absurd rfl h
  | succ k ih =>
    intro a b ha hb h
    unfold gcdF at h ⊢
    split
    · rename_i h0; subst h0; exact isGcd_zero a
    · rename_i h0
      rw [if_neg h0] at h
      have hd := deg_log h0
      rw [modF_eq b _ hd 64 a ha] at h ⊢
      exact (ih b _ hb (Nat.lt_of_lt_of_le (pr_lt hd a) (Nat.le_of_lt (Nat.lt_of_le_of_lt hd.1 hb))) h).step hd

/-- Rabin's test for m of degree d; Ks: numbers of which each proper divisor of d divides one. -/
def chk (m d : Nat) (Ks : List Nat) : Bool :=
  decide (2 ^ d ≤ m) && decide (m < 2 ^ (d + 1)) && decide (2 ≤ d) && decide (d ≤ 63) && decide (m % 2 = 1) && (List.range d).all (fun e => decide (e = 0) || decide (d % e ≠ 0) || Ks.any fun k => decide (k % e = 0)) &&
  Ks.all (fun k => decide (1 ≤ k) && decide (k < d) && decide (gcdF 200 (sqF m (2 ^ d) k ^^^ 2) m = 1)) && decide (sqF m (2 ^ d) d = 2)
theorem chk_irr {m d : Nat} {Ks : List Nat} (h : chk m d Ks = true) : Deg m d ∧ m % 2 = 1 ∧ Irr m := by
  simp only [chk, Bool.and_eq_true, decide_eq_true_eq, List.all_eq_true, List.mem_range, Bool.or_eq_true, List.any_eq_true] at h
  obtain ⟨⟨⟨⟨⟨⟨⟨h1, h2⟩, h3⟩, h4⟩, h5⟩, h6⟩, h7⟩, h8⟩ := h
  have hd : Deg m d := ⟨h1, h2⟩
  have h63 := Nat.pow_le_pow_right (show 0 < 2 by decide) (show d + 1 ≤ 64 by omega)
  have h4d := Nat.pow_le_pow_right (show 0 < 2 by decide) h3
  refine ⟨hd, h5, (rabin hd (by omega) (fun k => k ∈ Ks) (fun e he hlt => ?_) (fun k hk => ⟨(h7 k hk).1.1, (h7 k hk).1.2⟩)).2 ⟨?_, fun k hk => ?_⟩⟩
  · have he0 : e ≠ 0 := by rintro rfl; have := Nat.eq_zero_of_zero_dvd he; omega
    rcases h6 e hlt with (h9 | h9) | ⟨k, hk, hke⟩
    · exact absurd h9 he0
    · exact absurd (Nat.mod_eq_zero_of_dvd he) h9
    · exact ⟨k, hk, Nat.dvd_of_mod_eq_zero hke⟩
  · rw [sqF_eq hd h4] at h8
    rw [cg_iff hd, h8, pr_self hd (by omega)]
  · have h9 := (h7 k hk).2
    have hlt := pr_lt hd (sqn k 2)
    have hx : pr m d (sqn k 2) ^^^ 2 < 2 ^ 64 := Nat.xor_lt_two_pow (by omega) (by decide)
    rw [sqF_eq hd h4] at h9
    have h10 := gcdF_eq 200 (pr m d (sqn k 2) ^^^ 2) m hx (by omega) (by rw [h9]; decide)
    rw [h9] at h10
    have h11 := h10.co.2 rfl
    intro g hg hgm
    refine h11 g ?_ hgm
    have h12 : Cg g (pr m d (sqn k 2)) (sqn k 2) := ((cg_pr hd (sqn k 2)).symm).of_dv hgm
    have h13 := (h12.xor (Cg.refl g 2)).trans (dv_cg.1 hg)
    exact dv_cg.2 h13

/-- One of each degree from 2 to 53, with what Rabin's test asks of it. -/
def irrTab : List (Nat × List Nat) := [(7, [1]), (11, [1]), (19, [2]), (37, [1]), (67, [3, 2]), (131, [1]), (283, [4]), (515, [3]), (1033, [5, 2]), (2053, [1]), (4105, [6, 4]), (8219, [1]), (16417, [7, 2]), (32771, [5, 3]), (65579, [8]), (131081, [1]), (262153, [9, 6]), (524327, [1]), (1048585, [10, 4]), (2097157, [7, 3]), (4194307, [11, 2]), (8388641, [1]), (16777243, [12, 8]), (33554441, [5]), (67108891, [13, 2]), (134217767, [9]), (268435459, [14, 4]), (536870917, [1]), (1073741827, [15, 10, 6]), (2147483657, [1]), (4294967437, [16]), (8589934667, [11, 3]), (17179869211, [17, 2]), (34359738373, [7, 5]), (68719476789, [18, 12]), (137438953535, [1]), (274877907043, [19, 2]), (549755813905, [13, 3]), (1099511627833, [20, 8]), (2199023255561, [1]), (4398046511143, [21, 14, 6]), (8796093022297, [1]), (17592186044449, [22, 4]), (35184372088859, [15, 9]), (70368744177667, [23, 2]), (140737488355361, [1]), (281474976710701, [24, 16]), (562949953421425, [7]), (1125899906842653, [25, 10]), (2251799813685323, [17, 3]), (4503599627370505, [26, 4]), (9007199254741063, [1])]
def irrAll : List (Nat × List Nat) → Nat → Bool
  | [], _ => true
  | (m, Ks) :: r, d => chk m d Ks && irrAll r (d + 1)
theorem irrAll_at : ∀ (l : List (Nat × List Nat)) (d i : Nat), irrAll l d = true → i < l.length → ∃ m, Deg m (d + i) ∧ m % 2 = 1 ∧ Irr m
  | [], _, _, _, h => absurd h (by simp)
  | (m, Ks) :: r, d, i, h, hi => by
    rw [irrAll, Bool.and_eq_true] at h
    cases i with
    | zero => exact ⟨m, chk_irr h.1⟩
    | succ i =>
      have := irrAll_at r (d + 1) i h.2 (by simpa using hi)
      rw [show d + (i + 1) = d + 1 + i by omega]
      exact this
set_option maxRecDepth 100000 in
theorem irrTab_ok : irrAll irrTab 2 = true := by kernel_rfl
theorem irr_some {d : Nat} (h1 : 2 ≤ d) (h2 : d ≤ 53) : ∃ m, Deg m d ∧ m % 2 = 1 ∧ Irr m := by
  have := irrAll_at irrTab 2 (d - 2) irrTab_ok (by show d - 2 < 52; omega)
  rwa [show 2 + (d - 2) = d by omega] at this

end Go.Proofs.Ytkopdkamhkmefaa
