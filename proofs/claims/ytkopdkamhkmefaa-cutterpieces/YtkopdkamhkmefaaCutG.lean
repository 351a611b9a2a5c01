/- Cutting bytes where a fingerprint says so: the first chunk, the chunks, which bits are set. No function of the program is named here. -/
import Derived.Test.YtkopdkamhkmefaaRolG
namespace Go.Proofs.Ytkopdkamhkmefaa
set_option maxRecDepth 100000
open Go Go.RowKit
set_option linter.unusedVariables false
set_option linter.unusedSimpArgs false

/-- All bits of the mask are set. -/
def allB (x mask : Nat) : Bool := decide (x &&& mask = mask)
theorem and_div2 (a b : Nat) : (a &&& b) / 2 = a / 2 &&& b / 2 := by
  have h := Nat.shiftRight_and_distrib (a := a) (b := b) (i := 1)
  simpa [Nat.shiftRight_eq_div_pow] using h
theorem and_mod2 (a b : Nat) : (a &&& b) % 2 = a % 2 * (b % 2) := by
  have h := Nat.testBit_and a b 0
  simp only [Nat.testBit_zero] at h
  rcases Nat.mod_two_eq_zero_or_one a with h1 | h1 <;> rcases Nat.mod_two_eq_zero_or_one b with h2 | h2 <;> rcases Nat.mod_two_eq_zero_or_one (a &&& b) with h3 | h3 <;> simp [h1, h2, h3] at h ⊢
theorem allB_zero (x : Nat) : allB x 0 = true := by unfold allB; simp
theorem allB_no {x mask : Nat} (h1 : mask % 2 = 1) (h2 : x % 2 = 0) : allB x mask = false := by
  unfold allB
  refine decide_eq_false fun h => ?_
  have h3 := and_mod2 x mask
  rw [h, h1, h2] at h3
  omega
theorem allB_next {x mask : Nat} (h : ¬ (mask % 2 = 1 ∧ x % 2 = 0)) : allB x mask = allB (x / 2) (mask / 2) := by
  unfold allB
  have h1 := and_mod2 x mask
  have h2 := and_div2 x mask
  have h3 : (x &&& mask) % 2 = mask % 2 := by
    rw [h1]
    rcases Nat.mod_two_eq_zero_or_one mask with h5 | h5
    · rw [h5, Nat.mul_zero]
    · rcases Nat.mod_two_eq_zero_or_one x with h4 | h4
      · exact absurd ⟨h5, h4⟩ h
      · rw [h4, h5]
  rw [decide_eq_decide]
  constructor
  · intro e; rw [← h2, e]
  · intro e; rw [← h2] at e; omega

/-- Does the first chunk end behind n bytes? -/
def cutP (m d mask mn mx : Nat) (l : List UInt8) (n : Nat) : Bool := decide (n = mx) || (decide (mn ≤ n) && allB (fpr m d (l.take n)) mask)
/-- The first place from n on of which p tells so, or the end. -/
def fstN (p : Nat → Bool) (len n : Nat) : Nat := if n < len then (if p n then n else fstN p len (n + 1)) else len
termination_by len - n
decreasing_by omega
theorem fstN_yes {p : Nat → Bool} {len n : Nat} (h : n < len) (hp : p n = true) : fstN p len n = n := by unfold fstN; rw [if_pos h, if_pos hp]
theorem fstN_no {p : Nat → Bool} {len n : Nat} (h : n < len) (hp : p n = false) : fstN p len n = fstN p len (n + 1) := by
  rw [fstN, if_pos h, hp]; simp
theorem fstN_end {p : Nat → Bool} {len n : Nat} (h : len ≤ n) : fstN p len n = len := by unfold fstN; rw [if_neg (by omega)]
theorem fstN_ge {p : Nat → Bool} {len : Nat} : ∀ (k n : Nat), len - n = k → n ≤ len → n ≤ fstN p len n ∧ fstN p len n ≤ len := by
  intro k
  induction k with
  | zero => intro n h1 h2; rw [fstN_end (by omega)]; omega
  | succ k ih =>
    intro n h1 h2
    rcases hp : p n with _ | _
    · rw [fstN_no (by omega) hp]
      have := ih (n + 1) (by omega) (by omega)
      omega
    · rw [fstN_yes (by omega) hp]; omega
/-- How many bytes the first chunk has. -/
def cutF (m d mask mn mx : Nat) (l : List UInt8) : Nat := fstN (cutP m d mask mn mx l) l.length 1
theorem cutF_le (m d mask mn mx : Nat) {l : List UInt8} (h : 0 < l.length) : 1 ≤ cutF m d mask mn mx l ∧ cutF m d mask mn mx l ≤ l.length := fstN_ge _ 1 rfl (by omega)
/-- How many bytes each chunk has. -/
def cutL (m d mask mn mx : Nat) (l : List UInt8) : List Nat :=
  if h : 0 < l.length then cutF m d mask mn mx l :: cutL m d mask mn mx (l.drop (cutF m d mask mn mx l)) else []
termination_by l.length
decreasing_by
  have := cutF_le m d mask mn mx h
  rw [List.length_drop]
  omega
theorem cutL_nil (m d mask mn mx : Nat) : cutL m d mask mn mx [] = [] := by unfold cutL; rfl
theorem cutL_step (m d mask mn mx : Nat) {l : List UInt8} (h : 0 < l.length) : cutL m d mask mn mx l = cutF m d mask mn mx l :: cutL m d mask mn mx (l.drop (cutF m d mask mn mx l)) := by
  rw [cutL, dif_pos h]
/-- Nothing has been cut among the first n bytes. -/
def NoCut (m d mask mn mx : Nat) (l : List UInt8) (n : Nat) : Prop := ∀ i, 1 ≤ i → i ≤ n → i < l.length → cutP m d mask mn mx l i = false
theorem cutF_at {m d mask mn mx n : Nat} {l : List UInt8} (h1 : 1 ≤ n) (hn : n < l.length) (hno : ∀ i, 1 ≤ i → i < n → cutP m d mask mn mx l i = false) (hp : cutP m d mask mn mx l n = true) : cutF m d mask mn mx l = n := by
  have key : ∀ k j, n - j = k → 1 ≤ j → j ≤ n → fstN (cutP m d mask mn mx l) l.length j = n := by
    intro k
    induction k with
    | zero => intro j h1 h2 h3; have : j = n := by omega
              subst this; exact fstN_yes hn hp
    | succ k ih => intro j h1 h2 h3; rw [fstN_no (by omega) (hno j h2 (by omega))]; exact ih (j + 1) (by omega) (by omega) (by omega)
  exact key _ 1 rfl (by omega) h1
theorem cutF_all {m d mask mn mx : Nat} {l : List UInt8} (h0 : 0 < l.length) (hno : ∀ i, 1 ≤ i → i < l.length → cutP m d mask mn mx l i = false) : cutF m d mask mn mx l = l.length := by
  have key : ∀ k j, l.length - j = k → 1 ≤ j → j ≤ l.length → fstN (cutP m d mask mn mx l) l.length j = l.length := by
    intro k
    induction k with
    | zero => intro j h1 h2 h3; exact fstN_end (by omega)
    | succ k ih => intro j h1 h2 h3; rw [fstN_no (by omega) (hno j h2 (by omega))]; exact ih (j + 1) (by omega) (by omega) (by omega)
  exact key _ 1 rfl (by omega) (by omega)
theorem cutP_take {m d mask mn mx n : Nat} {l r : List UInt8} (h : n ≤ l.length) : cutP m d mask mn mx (l ++ r) n = cutP m d mask mn mx l n := by
  unfold cutP
  rw [List.take_append_of_le_length h]
/-- A chunk that is not the last has at most mx bytes and at least mn; the last at most mx. -/
theorem cutF_max {m d mask mn mx : Nat} {l : List UInt8} (h0 : 0 < l.length) (h1 : 1 ≤ mx) : cutF m d mask mn mx l ≤ mx := by
  have key : ∀ k j, mx - j = k → 1 ≤ j → j ≤ mx → fstN (cutP m d mask mn mx l) l.length j ≤ mx := by
    intro k
    induction k with
    | zero =>
      intro j h1 h2 h3
      have : j = mx := by omega
      subst this
      rcases Nat.lt_or_ge j l.length with h | h
      · rw [fstN_yes h (by unfold cutP; simp)]; exact Nat.le_refl _
      · rw [fstN_end h]; exact h
    | succ k ih =>
      intro j h1 h2 h3
      rcases Nat.lt_or_ge j l.length with h | h
      · rcases hp : cutP m d mask mn mx l j with _ | _
        · rw [fstN_no h hp]; exact ih (j + 1) (by omega) (by omega) (by omega)
        · rw [fstN_yes h hp]; exact h3
      · rw [fstN_end h]; omega
  exact key _ 1 rfl (by omega) h1
theorem cutF_min {m d mask mn mx : Nat} {l : List UInt8} (h : cutF m d mask mn mx l < l.length) (hmx : mn ≤ mx) : mn ≤ cutF m d mask mn mx l := by
  have key : ∀ k j, l.length - j = k → 1 ≤ j → fstN (cutP m d mask mn mx l) l.length j < l.length → cutP m d mask mn mx l (fstN (cutP m d mask mn mx l) l.length j) = true := by
    intro k
    induction k with
    | zero => intro j h1 h2 h3; rw [fstN_end (by omega)] at h3; omega
    | succ k ih =>
      intro j h1 h2 h3
      rcases hp : cutP m d mask mn mx l j with _ | _
      · rw [fstN_no (by omega) hp] at h3 ⊢; exact ih (j + 1) (by omega) (by omega) h3
      · rw [fstN_yes (by omega) hp]; exact hp
  have h2 := key _ 1 rfl (by omega) h
  change cutP m d mask mn mx l (cutF m d mask mn mx l) = true at h2
  unfold cutP at h2
  simp only [Bool.or_eq_true, Bool.and_eq_true, decide_eq_true_eq] at h2
  omega

end Go.Proofs.Ytkopdkamhkmefaa
