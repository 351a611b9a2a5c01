/- Polynomials over the field of two elements, coefficient by coefficient: lists of noughts and ones. No program is named here. -/
import Derived.Test.YtkopdkamhkmefaaGfM
namespace Go.Proofs.Ytkopdkamhkmefaa
set_option maxRecDepth 100000
open Go Go.RowKit
set_option linter.unusedVariables false
set_option linter.unusedSimpArgs false

/-- Noughts and ones. -/
def Bt (x : List Nat) : Prop := ∀ d ∈ x, d < 2
theorem bt_nil : Bt [] := fun d h => by simp at h
theorem bt_zeros (n : Nat) : Bt (List.replicate n 0) := fun d h => by rw [List.eq_of_mem_replicate h]; decide
section
variable {x : List Nat} (h : Bt x)
include h
theorem Bt.at_ (k : Nat) : x.getD k 0 < 2 := by
  rw [List.getD_eq_getElem?_getD]
  rcases Nat.lt_or_ge k x.length with hk | hk
  · rw [List.getElem?_eq_getElem hk]; exact h _ (List.getElem_mem _)
  · rw [List.getElem?_eq_none hk]; simp
theorem Bt.snoc {d : Nat} (hd : d < 2) : Bt (x ++ [d]) := by
  intro e he
  rcases List.mem_append.1 he with h1 | h1
  · exact h e h1
  · rw [List.mem_singleton.1 h1]; exact hd
theorem Bt.set (k : Nat) {d : Nat} (hd : d < 2) : Bt (x.set k d) := by
  intro e he
  rcases List.mem_or_eq_of_mem_set he with h1 | h1
  · exact h e h1
  · rw [h1]; exact hd
theorem Bt.take (k : Nat) : Bt (x.take k) := fun d hd => h d (List.mem_of_mem_take hd)
theorem Bt.drop (k : Nat) : Bt (x.drop k) := fun d hd => h d (List.mem_of_mem_drop hd)
theorem Bt.lt : bv 2 x < 2 ^ x.length := bv_lt (by decide) x h
end
theorem Bt.tail {d : Nat} {r : List Nat} (h : Bt (d :: r)) : Bt r := fun e he => h e (List.mem_cons_of_mem _ he)
theorem Bt.head {d : Nat} {r : List Nat} (h : Bt (d :: r)) : d < 2 := h d (List.mem_cons_self ..)
theorem gD_lt (x : List Nat) (k : Nat) (h : k < x.length) : x.getD k 0 = x[k] := by rw [List.getD_eq_getElem?_getD, List.getElem?_eq_getElem h, Option.getD_some]
theorem is_gD {x : List Nat} {j : Nat} (h : j < x.length) : (is x)[j]? = some (.int .i64 (x.getD j 0 : Nat)) := by rw [is_at h, gD_lt x j h]

/-- The coefficients of a number. -/
def bts : Nat → List Nat
  | 0 => []
  | a + 1 => (a + 1) % 2 :: bts ((a + 1) / 2)
termination_by a => a
decreasing_by omega
theorem bts_zero : bts 0 = [] := by unfold bts; rfl
theorem bts_step (a : Nat) (ha : 0 < a) : bts a = a % 2 :: bts (a / 2) := by
  cases a with
  | zero => omega
  | succ a => rw [bts]
theorem bts_bt (a : Nat) : Bt (bts a) := by
  induction a using half_ind with
  | h0 => rw [bts_zero]; exact bt_nil
  | h a ha ih =>
    rw [bts_step a ha]
    intro e he
    rcases List.mem_cons.1 he with h | h
    · rw [h]; omega
    · exact ih e h
theorem bts_bv (a : Nat) : bv 2 (bts a) = a := by
  induction a using half_ind with
  | h0 => rw [bts_zero]; rfl
  | h a ha ih => rw [bts_step a ha, bv, ih]; omega
theorem bts_len (a : Nat) (h : a < 18446744073709551616) : (bts a).length = nb2 a := by
  induction a using half_ind with
  | h0 => rw [bts_zero, nb2_zero]; rfl
  | h a ha ih => rw [bts_step a ha, List.length_cons, ih (by omega), nb2_half ha h]; omega

/-- A coefficient. -/
theorem bv_digit {x : List Nat} (h : Bt x) (k : Nat) : x.getD k 0 = bv 2 x / 2 ^ k % 2 := by
  induction x generalizing k with
  | nil => simp [bv]
  | cons d r ih =>
    have hd := h.head
    cases k with
    | zero => simp [bv]; omega
    | succ k =>
      have h1 : (d + 2 * bv 2 r) / 2 = bv 2 r := by omega
      rw [List.getD_cons_succ, ih h.tail, bv, Nat.pow_succ', ← Nat.div_div_eq_div_mul, h1]
theorem shl_xor (a b k : Nat) : (a ^^^ b) * 2 ^ k = a * 2 ^ k ^^^ b * 2 ^ k := by
  have h := pm_xor (2 ^ k) a b
  rw [pm_pow, pm_pow, pm_pow] at h
  rw [Nat.mul_comm, Nat.mul_comm a, Nat.mul_comm b]
  exact h
/-- A coefficient that another one is added to. -/
theorem bv_flip {x : List Nat} (h : Bt x) (k c : Nat) (hk : k < x.length) (hc : c < 2) : bv 2 (x.set k ((x.getD k 0 + c) % 2)) = bv 2 x ^^^ c * 2 ^ k := by
  induction x generalizing k with
  | nil => simp at hk
  | cons d r ih =>
    have hd := h.head
    have e1 : d + 2 * bv 2 r = 2 * bv 2 r ^^^ d := by rw [even_xor _ _ hd]; omega
    cases k with
    | zero =>
      simp only [List.set_cons_zero, List.getD_cons_zero, bv, Nat.pow_zero, Nat.mul_one]
      rw [e1, Nat.xor_assoc]
      have h2 : d ^^^ c = (d + c) % 2 := by
        rcases (show d = 0 ∨ d = 1 by omega) with rfl | rfl <;> rcases (show c = 0 ∨ c = 1 by omega) with rfl | rfl <;> rfl
      rw [h2, even_xor _ _ (by omega)]
      omega
    | succ k =>
      have h2 := ih h.tail k (by simpa using hk)
      simp only [List.set_cons_succ, List.getD_cons_succ, bv]
      rw [h2, e1]
      have e2 : d + 2 * (bv 2 r ^^^ c * 2 ^ k) = 2 * (bv 2 r ^^^ c * 2 ^ k) ^^^ d := by rw [even_xor _ _ hd]; omega
      rw [e2, two_xor, Nat.pow_succ, ← Nat.mul_assoc, Nat.mul_comm _ 2, Nat.xor_assoc, Nat.xor_comm _ d, ← Nat.xor_assoc, Nat.mul_comm 2 c, Nat.mul_assoc]
/-- From the highest one on. -/
theorem bv_down (x : List Nat) (k : Nat) (hk : k < x.length) : bv 2 (x.drop (k + 1)) * 2 + x.getD k 0 = bv 2 (x.drop k) := by
  rw [List.drop_eq_getElem_cons hk, bv, gD_lt _ _ hk]; omega

/-- A multiple taken off, coefficient by coefficient: behind j of them. -/
def offTo (v M d i j : Nat) : Nat := v ^^^ M / 2 ^ (d + 1 - j) * 2 ^ (i + 1 - j)
theorem offTo_zero {v M d i : Nat} (h : M < 2 ^ (d + 1)) : offTo v M d i 0 = v := by
  unfold offTo
  rw [Nat.sub_zero, Nat.div_eq_of_lt h, Nat.zero_mul, Nat.xor_zero]
theorem offTo_all (v M d i : Nat) (h : d ≤ i) : offTo v M d i (d + 1) = v ^^^ M * 2 ^ (i - d) := by
  unfold offTo
  rw [Nat.sub_self, Nat.pow_zero, Nat.div_one, show i + 1 - (d + 1) = i - d by omega]
theorem offTo_next (v M d i j : Nat) (hj : j ≤ d) (hi : d ≤ i) : offTo v M d i j ^^^ (M / 2 ^ (d - j) % 2) * 2 ^ (i - j) = offTo v M d i (j + 1) := by
  unfold offTo
  rw [show d + 1 - (j + 1) = d - j by omega, show i + 1 - (j + 1) = i - j by omega, Nat.xor_assoc]
  congr 1
  rw [show d + 1 - j = d - j + 1 by omega, show i + 1 - j = i - j + 1 by omega, Nat.pow_succ, Nat.pow_succ, ← Nat.div_div_eq_div_mul, Nat.mul_comm (2 ^ (i - j)) 2, ← Nat.mul_assoc, ← shl_xor]
  congr 1
  rw [Nat.mul_comm _ 2, even_xor _ _ (by omega)]
  omega
/-- A multiple added, coefficient by coefficient. -/
def onTo (v x b i j : Nat) : Nat := v ^^^ x * (b % 2 ^ j) * 2 ^ i
theorem onTo_zero (v x b i : Nat) : onTo v x b i 0 = v := by unfold onTo; rw [Nat.pow_zero, Nat.mod_one, Nat.mul_zero, Nat.zero_mul, Nat.xor_zero]
theorem onTo_next (v x b i j : Nat) (hx : x < 2) : onTo v x b i j ^^^ (x * (b / 2 ^ j % 2)) * 2 ^ (i + j) = onTo v x b i (j + 1) := by
  unfold onTo
  rw [Nat.xor_assoc]
  congr 1
  rcases (show x = 0 ∨ x = 1 by omega) with rfl | rfl
  · simp
  · rw [Nat.one_mul, Nat.one_mul, Nat.one_mul, bit_take, shl_xor]
    congr 1
    rcases Nat.mod_two_eq_zero_or_one (b / 2 ^ j) with h | h
    · rw [h, if_neg (by decide), Nat.zero_mul, Nat.zero_mul]
    · rw [h, if_pos rfl, Nat.one_mul, Nat.add_comm, Nat.pow_add]
theorem onTo_all (a b i n : Nat) (hb : b < 2 ^ n) : onTo (pm (a % 2 ^ i) b) (a / 2 ^ i % 2) b i n = pm (a % 2 ^ (i + 1)) b := by
  unfold onTo
  rw [Nat.mod_eq_of_lt hb, bit_take, xor_pm]
  congr 1
  rcases Nat.mod_two_eq_zero_or_one (a / 2 ^ i) with h | h
  · rw [h, if_neg (by decide), Nat.zero_mul, Nat.zero_mul, pm_zero_left]
  · rw [h, if_pos rfl, Nat.one_mul, pm_pow, Nat.mul_comm]

/-- The top coefficient is a nought, or a one. -/
theorem top_zero {x : List Nat} (h : Bt x) {k : Nat} (hl : bv 2 x < 2 ^ (k + 1)) (h0 : x.getD k 0 ≠ 1) : bv 2 x < 2 ^ k := by
  have h1 := bv_digit h k
  have h2 : bv 2 x / 2 ^ k < 2 := by
    rw [Nat.div_lt_iff_lt_mul (Nat.two_pow_pos k), Nat.mul_comm, ← Nat.pow_succ]; exact hl
  rcases Nat.lt_or_ge (bv 2 x) (2 ^ k) with h4 | h4
  · exact h4
  · have h5 := Nat.div_pos h4 (Nat.two_pow_pos k)
    generalize bv 2 x / 2 ^ k = q at *
    omega
theorem top_one {x : List Nat} (h : Bt x) {k : Nat} (hl : bv 2 x < 2 ^ (k + 1)) (h0 : x.getD k 0 = 1) : Deg (bv 2 x) k := by
  have h1 := bv_digit h k
  rw [h0] at h1
  refine ⟨?_, hl⟩
  rcases Nat.lt_or_ge (bv 2 x) (2 ^ k) with h2 | h2
  · rw [Nat.div_eq_of_lt h2] at h1; simp at h1
  · exact h2
theorem bv_small {x : List Nat} (h : Bt x) (k : Nat) (hl : bv 2 x < 2 ^ k) : bv 2 (x.take k) = bv 2 x := by
  rcases Nat.lt_or_ge k x.length with h1 | h1
  · have h2 := bv_split 2 x k (by omega)
    rcases Nat.eq_zero_or_pos (bv 2 (x.drop k)) with h3 | h3
    · rw [h3] at h2; omega
    · have := Nat.mul_le_mul_left (2 ^ k) h3; omega
  · rw [List.take_of_length_le h1]

end Go.Proofs.Ytkopdkamhkmefaa
