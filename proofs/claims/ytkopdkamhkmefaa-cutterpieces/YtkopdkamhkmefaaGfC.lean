/- Polynomials over the field of two elements: squares, powers, x squared as often as the degree tells (by an irreducible one), how many roots there are, what divides x squared k times less x. No program is named here. -/
import Derived.Test.YtkopdkamhkmefaaGfB
namespace Go.Proofs.Ytkopdkamhkmefaa
set_option maxRecDepth 100000
set_option linter.unusedVariables false

/-- a squared k times. -/
def sqn : Nat → Nat → Nat
  | 0, a => a
  | k + 1, a => pm (sqn k a) (sqn k a)
/-- The n-th power. -/
def pw (a : Nat) : Nat → Nat
  | 0 => 1
  | n + 1 => pm (pw a n) a

theorem pw_add (a n k : Nat) : pw a (n + k) = pm (pw a n) (pw a k) := by
  induction k with
  | zero => rw [pw, pm_one]; rfl
  | succ k ih => rw [← Nat.add_assoc, pw, ih, pw, pm_assoc]
theorem sqn_pw (k a : Nat) : sqn k a = pw a (2 ^ k) := by
  induction k with
  | zero => rw [sqn, Nat.pow_zero, pw, pw, pm_one_left]
  | succ k ih => rw [sqn, ih, ← pw_add, Nat.pow_succ]; congr 1; omega
theorem sqn_xor (k a b : Nat) : sqn k (a ^^^ b) = sqn k a ^^^ sqn k b := by
  induction k with
  | zero => rfl
  | succ k ih =>
    rw [sqn, ih, sqn, sqn, pm_xor, xor_pm, xor_pm, pm_comm (sqn k b) (sqn k a), xor4, Nat.xor_comm (pm (sqn k a) (sqn k b)), xor4, Nat.xor_self, Nat.xor_zero]
theorem pm4 (a b c d : Nat) : pm (pm a b) (pm c d) = pm (pm a c) (pm b d) := by
  rw [pm_assoc, pm_assoc, ← pm_assoc b, pm_comm b c, pm_assoc c]
theorem sqn_pm (k a b : Nat) : sqn k (pm a b) = pm (sqn k a) (sqn k b) := by
  induction k with
  | zero => rfl
  | succ k ih => rw [sqn, ih, sqn, sqn, pm4]
theorem sqn_one (k : Nat) : sqn k 1 = 1 := by
  induction k with
  | zero => rfl
  | succ k ih => rw [sqn, ih, pm_one]
theorem sqn_zero (k : Nat) : sqn k 0 = 0 := by
  induction k with
  | zero => rfl
  | succ k ih => rw [sqn, ih, pm_zero]
theorem sqn_add (j k a : Nat) : sqn (j + k) a = sqn j (sqn k a) := by
  induction j with
  | zero => rw [Nat.zero_add, sqn]
  | succ j ih => rw [Nat.succ_add, sqn, sqn, ih]
theorem Cg.sqn {m a b : Nat} (h : Cg m a b) (k : Nat) : Cg m (sqn k a) (sqn k b) := by
  induction k with
  | zero => exact h
  | succ k ih => exact ih.mul ih

/-! The powers of what is no multiple. -/
theorem perm_of_sub {α : Type} [DecidableEq α] : ∀ (l1 l2 : List α), l1.Nodup → (∀ x ∈ l1, x ∈ l2) → l2.length ≤ l1.length → l1.Perm l2
  | [], l2, _, _, h => by
    have : l2 = [] := List.eq_nil_of_length_eq_zero (by simpa using h)
    subst this
    exact List.Perm.nil
  | x :: t, l2, hn, hs, hl => by
    have hx : x ∈ l2 := hs x (List.mem_cons_self ..)
    have hp := List.perm_cons_erase hx
    have hlen := hp.length_eq
    simp only [List.length_cons] at hlen hl
    rw [List.nodup_cons] at hn
    have ih := perm_of_sub t (l2.erase x) hn.2 (fun y hy => (List.mem_erase_of_ne (show y ≠ x from fun e => hn.1 (by rw [← e]; exact hy))).2 (hs y (List.mem_cons_of_mem _ hy))) (by omega)
    exact (ih.cons x).trans hp.symm

theorem nodup_map_on {l : List Nat} {f : Nat → Nat} (h : ∀ x ∈ l, ∀ y ∈ l, f x = f y → x = y) (hn : l.Nodup) : (l.map f).Nodup := by
  unfold List.Nodup
  rw [List.pairwise_map]
  exact List.Pairwise.imp_of_mem (fun hx hy hne e => hne (h _ hx _ hy e)) hn

/-- The product of a list. -/
def prod (l : List Nat) : Nat := l.foldr pm 1
theorem prod_perm {l l' : List Nat} (h : l.Perm l') : prod l = prod l' := by
  induction h with
  | nil => rfl
  | cons x _ ih => show pm x _ = pm x _; rw [show List.foldr pm 1 _ = prod _ from rfl, ih]; rfl
  | swap x y l => show pm y (pm x _) = pm x (pm y _); rw [← pm_assoc, pm_comm y x, pm_assoc]
  | trans _ _ ih1 ih2 => exact ih1.trans ih2
theorem prod_map {m : Nat} (f : Nat → Nat) (a : Nat) (l : List Nat) (h : ∀ x ∈ l, Cg m (f x) (pm a x)) : Cg m (prod (l.map f)) (pm (pw a l.length) (prod l)) := by
  induction l with
  | nil => simp only [List.map_nil, List.length_nil, pw, pm_one_left]; exact Cg.refl _ _
  | cons x l ih =>
    have h1 := (h x (List.mem_cons_self ..)).mul (ih (fun y hy => h y (List.mem_cons_of_mem _ hy)))
    have h2 : pm (pm a x) (pm (pw a l.length) (prod l)) = pm (pw a (x :: l).length) (prod (x :: l)) := by
      rw [pm4, pm_comm a]; rfl
    rw [h2] at h1
    exact h1
theorem prod_not {m : Nat} (hm : Irr m) (l : List Nat) (h : ∀ x ∈ l, ¬ Dv m x) : ¬ Dv m (prod l) := by
  induction l with
  | nil => exact irr_not_one hm
  | cons x l ih =>
    intro h1
    rcases irr_euclid hm h1 with h2 | h2
    · exact h x (List.mem_cons_self ..) h2
    · exact ih (fun y hy => h y (List.mem_cons_of_mem _ hy)) h2

section
variable {m d : Nat} (hm : Irr m) (hd : Deg m d)
include hm hd
theorem fermat_one {a : Nat} (ha : ¬ Dv m a) : Cg m (pw a (2 ^ d - 1)) 1 := by
  obtain ⟨L, hL⟩ : ∃ L, L = (List.range (2 ^ d - 1)).map (· + 1) := ⟨_, rfl⟩
  have hlen : L.length = 2 ^ d - 1 := by rw [hL]; simp
  have hmem : ∀ x, x ∈ L ↔ 0 < x ∧ x < 2 ^ d := by
    intro x
    rw [hL]
    simp only [List.mem_map, List.mem_range]
    constructor
    · rintro ⟨y, hy, rfl⟩; omega
    · intro h; exact ⟨x - 1, by omega, by omega⟩
  have hnd : L.Nodup := by
    rw [hL]
    exact nodup_map_on (fun x _ y _ e => by omega) List.nodup_range
  have hno : ∀ x ∈ L, ¬ Dv m x := fun x hx => irr_low hm hd ((hmem x).1 hx).1 ((hmem x).1 hx).2
  have hperm : (L.map fun x => pr m d (pm a x)).Perm L := by
    refine perm_of_sub _ _ ?_ ?_ (by simp)
    · refine nodup_map_on ?_ hnd
      intro x hx y hy e
      have h1 : Cg m (pm a x) (pm a y) := (cg_iff hd).2 e
      exact cg_eq hd (irr_cancel hm ha h1) ((hmem x).1 hx).2 ((hmem y).1 hy).2
    · intro y hy
      obtain ⟨x, hx, rfl⟩ := List.mem_map.1 hy
      refine (hmem _).2 ⟨?_, pr_lt hd _⟩
      rcases Nat.eq_zero_or_pos (pr m d (pm a x)) with h0 | h0
      · rcases irr_euclid hm ((dv_pr hd).2 h0) with h1 | h1
        · exact absurd h1 ha
        · exact absurd h1 (hno x hx)
      · exact h0
  have h1 := prod_map (m := m) (fun x => pr m d (pm a x)) a L (fun x _ => (cg_pr hd _).symm)
  rw [prod_perm hperm, hlen, pm_comm] at h1
  have h2 : Cg m (pm (prod L) 1) (pm (prod L) (pw a (2 ^ d - 1))) := by rw [pm_one]; exact h1
  exact (irr_cancel hm (prod_not hm L hno) h2).symm
/-- By an irreducible one of degree d: squared d times, each is congruent to itself. -/
theorem fermat (a : Nat) : Cg m (sqn d a) a := by
  by_cases ha : Dv m a
  · have h0 := dv_cg.1 ha
    have h1 := h0.sqn d
    rw [sqn_zero] at h1
    exact h1.trans h0.symm
  · have h1 := (fermat_one hm hd ha).left a
    rw [pm_one, pm_comm] at h1
    rw [sqn_pw]
    have e : 2 ^ d = (2 ^ d - 1) + 1 := by have := Nat.two_pow_pos d; omega
    rw [e]
    exact h1
end

/-! How many roots there are. -/
/-- The value at y of the polynomial whose leading coefficient is 1 and whose others are l, the highest first. -/
def hv (l : List Nat) (y : Nat) : Nat := l.foldl (fun acc c => pm acc y ^^^ c) 1
theorem hv_snoc (l : List Nat) (c y : Nat) : hv (l ++ [c]) y = pm (hv l y) y ^^^ c := by simp [hv, List.foldl_append]
theorem hv_split (a : Nat) (n : Nat) : ∀ l : List Nat, l.length = n + 1 → ∃ q : List Nat, q.length = n ∧ ∀ y, hv l y ^^^ hv l a = pm (y ^^^ a) (hv q y) := by
  induction n with
  | zero =>
    intro l hl
    obtain ⟨c, rfl⟩ : ∃ c, l = [c] := by
      match l, hl with
      | [c], _ => exact ⟨c, rfl⟩
    refine ⟨[], rfl, fun y => ?_⟩
    simp only [hv, List.foldl_cons, List.foldl_nil, pm_one_left, pm_one]
    rw [xor4, Nat.xor_self, Nat.xor_zero]
  | succ n ih =>
    intro l hl
    obtain ⟨c, r, rfl⟩ : ∃ c r, l = r ++ [c] := ⟨l.getLast (by intro h; simp [h] at hl), l.dropLast, (List.dropLast_concat_getLast _).symm⟩
    obtain ⟨q, hq, h⟩ := ih r (by simpa using hl)
    refine ⟨q ++ [hv r a], by simp [hq], fun y => ?_⟩
    rw [hv_snoc, hv_snoc, hv_snoc, xor4, Nat.xor_self, Nat.xor_zero, pm_xor, ← pm_assoc, ← h y, xor_pm, pm_comm (y ^^^ a), pm_xor, Nat.xor_assoc]
    congr 1
    rw [← Nat.xor_assoc, Nat.xor_self, Nat.zero_xor]
section
variable {m d : Nat} (hm : Irr m) (hd : Deg m d)
include hm hd
theorem root_bound (n : Nat) : ∀ (l : List Nat), l.length = n → ∀ S : List Nat, S.Nodup → (∀ y ∈ S, y < 2 ^ d) → (∀ y ∈ S, Dv m (hv l y)) → S.length ≤ n := by
  induction n with
  | zero =>
    intro l hl S _ _ hr
    have : l = [] := List.eq_nil_of_length_eq_zero hl
    subst this
    cases S with
    | nil => exact Nat.le_refl _
    | cons y S => exact absurd (hr y (List.mem_cons_self ..)) (irr_not_one hm)
  | succ n ih =>
    intro l hl S hn hlt hr
    cases S with
    | nil => exact Nat.zero_le _
    | cons a T =>
      obtain ⟨q, hq, h⟩ := hv_split a n l hl
      rw [List.nodup_cons] at hn
      have := ih q hq T hn.2 (fun y hy => hlt y (List.mem_cons_of_mem _ hy)) (fun y hy => by
        have h1 := (hr y (List.mem_cons_of_mem _ hy)).xor (hr a (List.mem_cons_self ..))
        rw [h y] at h1
        rcases irr_euclid hm h1 with h2 | h2
        · refine absurd h2 (irr_low hm hd ?_ (Nat.xor_lt_two_pow (hlt y (List.mem_cons_of_mem _ hy)) (hlt a (List.mem_cons_self ..))))
          rcases Nat.eq_zero_or_pos (y ^^^ a) with h3 | h3
          · exact absurd hy (by rw [xor_eq_zero h3]; exact hn.1)
          · exact h3
        · exact h2)
      simp only [List.length_cons]
      omega
end

end Go.Proofs.Ytkopdkamhkmefaa
