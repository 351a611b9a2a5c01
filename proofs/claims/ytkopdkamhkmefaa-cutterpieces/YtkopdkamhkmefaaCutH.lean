/- More of the mathematics of cuts: byte by byte; what the lengths come to; what stands behind. No function of the program is named here. -/
import Derived.Test.YtkopdkamhkmefaaCutG
namespace Go.Proofs.Ytkopdkamhkmefaa
set_option maxRecDepth 100000
open Go Go.RowKit
set_option linter.unusedVariables false
set_option linter.unusedSimpArgs false

section
variable {m d mask mn mx : Nat}
/-- Does a chunk end behind the bytes o (all of them in one chunk)? -/
def endB (m d mask mn mx : Nat) (o : List UInt8) : Bool := cutP m d mask mn mx o o.length
/-- No chunk has ended among the bytes o. -/
def NoEnd (m d mask mn mx : Nat) (o : List UInt8) : Prop := ∀ i, 1 ≤ i → i ≤ o.length → cutP m d mask mn mx o i = false
theorem endB_eq (o : List UInt8) : endB m d mask mn mx o = (decide (o.length = mx) || (decide (mn ≤ o.length) && allB (fpr m d o) mask)) := by
  unfold endB cutP
  rw [List.take_length]
theorem NoEnd.nil : NoEnd m d mask mn mx [] := fun i h1 h2 => by simp at h2; omega
theorem NoEnd.push {o : List UInt8} (h : NoEnd m d mask mn mx o) (x : UInt8) (hx : endB m d mask mn mx (o ++ [x]) = false) : NoEnd m d mask mn mx (o ++ [x]) := fun i h1 h2 => by
  rw [List.length_append, List.length_singleton] at h2
  rcases Nat.lt_or_ge o.length i with hi | hi
  · have e : i = (o ++ [x]).length := by rw [List.length_append, List.length_singleton]; omega
    rw [e]; exact hx
  · rw [cutP_take hi]; exact h i h1 hi
theorem cutF_end {o : List UInt8} (h : NoEnd m d mask mn mx o) (x : UInt8) (hx : endB m d mask mn mx (o ++ [x]) = true) (r : List UInt8) : cutF m d mask mn mx ((o ++ [x]) ++ r) = o.length + 1 := by
  have hl : (o ++ [x]).length = o.length + 1 := by rw [List.length_append, List.length_singleton]
  have hno : ∀ i, 1 ≤ i → i < o.length + 1 → cutP m d mask mn mx ((o ++ [x]) ++ r) i = false := fun i h1 h2 => by
    rw [List.append_assoc, cutP_take (by omega)]; exact h i h1 (by omega)
  rcases Nat.eq_zero_or_pos r.length with h0 | h0
  · rw [cutF_all (by rw [List.length_append, hl]; omega) (fun i h1 h2 => hno i h1 (by rw [List.length_append, hl] at h2; omega)), List.length_append, hl, h0]
  · refine cutF_at (by omega) (by rw [List.length_append, hl]; omega) hno ?_
    rw [← hl, cutP_take (Nat.le_refl _)]; exact hx
/-- A chunk ends: the rest is cut anew. -/
theorem cutL_end {o : List UInt8} (h : NoEnd m d mask mn mx o) (x : UInt8) (hx : endB m d mask mn mx (o ++ [x]) = true) (r : List UInt8) : cutL m d mask mn mx (o ++ x :: r) = (o.length + 1) :: cutL m d mask mn mx r := by
  have e : o ++ x :: r = (o ++ [x]) ++ r := by rw [List.append_assoc]; rfl
  have hl : (o ++ [x]).length = o.length + 1 := by rw [List.length_append, List.length_singleton]
  rw [e, cutL_step _ _ _ _ _ (by rw [List.length_append, hl]; omega), cutF_end h x hx r, ← hl, List.drop_left]
/-- No chunk has ended: the first one ends later. -/
theorem cutF_gt {o : List UInt8} (h : NoEnd m d mask mn mx o) {r : List UInt8} (hr : 0 < r.length) : o.length < cutF m d mask mn mx (o ++ r) := by
  have hl : (o ++ r).length = o.length + r.length := List.length_append
  have key : ∀ k j, o.length + 1 - j = k → 1 ≤ j → j ≤ o.length + 1 → o.length + 1 ≤ fstN (cutP m d mask mn mx (o ++ r)) (o ++ r).length j := by
    intro k
    induction k with
    | zero => intro j h1 h2 h3
              have := (fstN_ge (p := cutP m d mask mn mx (o ++ r)) (len := (o ++ r).length) _ j rfl (by omega)).1
              omega
    | succ k ih => intro j h1 h2 h3; rw [fstN_no (by omega) (by rw [cutP_take (by omega)]; exact h j h2 (by omega))]; exact ih (j + 1) (by omega) (by omega) (by omega)
  exact key _ 1 rfl (by omega) (by omega)
/-- What is left open at the end. -/
theorem cutL_open {o : List UInt8} (h : NoEnd m d mask mn mx o) : cutL m d mask mn mx o = if o.length = 0 then [] else [o.length] := by
  by_cases h0 : o.length = 0
  · rw [if_pos h0, List.eq_nil_of_length_eq_zero h0, cutL_nil]
  · rw [if_neg h0, cutL_step _ _ _ _ _ (by omega), cutF_all (by omega) (fun i h1 h2 => h i h1 (by omega)), List.drop_length, cutL_nil]
/-- The lengths together. -/
theorem cutL_total (l : List UInt8) : (cutL m d mask mn mx l).sum = l.length := by
  induction hn : l.length using Nat.strongRecOn generalizing l with
  | ind n ih =>
    rcases Nat.eq_zero_or_pos l.length with h | h
    · rw [List.eq_nil_of_length_eq_zero h, cutL_nil, ← hn, h]; rfl
    · have hf := cutF_le m d mask mn mx h
      rw [cutL_step _ _ _ _ _ h, List.sum_cons, ih (l.drop (cutF m d mask mn mx l)).length (by rw [List.length_drop]; omega) _ rfl, List.length_drop]
      omega
theorem cutL_some {l : List UInt8} (h : 0 < l.length) : 0 < (cutL m d mask mn mx l).length := by rw [cutL_step _ _ _ _ _ h]; simp
theorem cutL_none {l : List UInt8} (h : (cutL m d mask mn mx l).length = 0) : l.length = 0 := by
  rcases Nat.eq_zero_or_pos l.length with h1 | h1
  · exact h1
  · have := cutL_some (m := m) (d := d) (mask := mask) (mn := mn) (mx := mx) h1; omega
/-- Each length. -/
theorem cutL_each (h1 : 1 ≤ mx) (l : List UInt8) : ∀ (i : Nat) (x : Nat), (cutL m d mask mn mx l)[i]? = some x → 1 ≤ x ∧ x ≤ mx := by
  induction hn : l.length using Nat.strongRecOn generalizing l with
  | ind n ih =>
    intro i x hx
    rcases Nat.eq_zero_or_pos l.length with h | h
    · rw [List.eq_nil_of_length_eq_zero h, cutL_nil] at hx; simp at hx
    · have hf := cutF_le m d mask mn mx h
      rw [cutL_step _ _ _ _ _ h] at hx
      cases i with
      | zero =>
        simp only [List.getElem?_cons_zero, Option.some.injEq] at hx
        rw [← hx]; exact ⟨hf.1, cutF_max h h1⟩
      | succ i =>
        rw [List.getElem?_cons_succ] at hx
        exact ih (l.drop (cutF m d mask mn mx l)).length (by rw [List.length_drop]; omega) _ rfl i x hx
/-- Each length but the last. -/
theorem cutL_min (hmx : mn ≤ mx) (l : List UInt8) : ∀ (i : Nat) (x : Nat), i + 1 < (cutL m d mask mn mx l).length → (cutL m d mask mn mx l)[i]? = some x → mn ≤ x := by
  induction hn : l.length using Nat.strongRecOn generalizing l with
  | ind n ih =>
    intro i x hi hx
    rcases Nat.eq_zero_or_pos l.length with h | h
    · rw [List.eq_nil_of_length_eq_zero h, cutL_nil] at hx; simp at hx
    · have hf := cutF_le m d mask mn mx h
      rw [cutL_step _ _ _ _ _ h] at hx hi
      rw [List.length_cons] at hi
      cases i with
      | zero =>
        simp only [List.getElem?_cons_zero, Option.some.injEq] at hx
        rw [← hx]
        refine cutF_min ?_ hmx
        rcases Nat.lt_or_ge (cutF m d mask mn mx l) l.length with h3 | h3
        · exact h3
        · rw [List.drop_of_length_le h3, cutL_nil] at hi; simp at hi
      | succ i =>
        rw [List.getElem?_cons_succ] at hx
        exact ih (l.drop (cutF m d mask mn mx l)).length (by rw [List.length_drop]; omega) _ rfl i x (by omega) hx
/-- Where the first chunk ends ahead of the end. -/
theorem cutF_spec {l : List UInt8} (h : cutF m d mask mn mx l < l.length) : cutP m d mask mn mx l (cutF m d mask mn mx l) = true ∧ ∀ i, 1 ≤ i → i < cutF m d mask mn mx l → cutP m d mask mn mx l i = false := by
  have key : ∀ k j, l.length - j = k → 1 ≤ j → fstN (cutP m d mask mn mx l) l.length j < l.length → cutP m d mask mn mx l (fstN (cutP m d mask mn mx l) l.length j) = true ∧ ∀ i, j ≤ i → i < fstN (cutP m d mask mn mx l) l.length j → cutP m d mask mn mx l i = false := by
    intro k
    induction k with
    | zero => intro j h1 h2 h3; rw [fstN_end (by omega)] at h3; omega
    | succ k ih =>
      intro j h1 h2 h3
      rcases hp : cutP m d mask mn mx l j with _ | _
      · rw [fstN_no (by omega) hp] at h3 ⊢
        obtain ⟨h4, h5⟩ := ih (j + 1) (by omega) (by omega) h3
        refine ⟨h4, fun i h6 h7 => ?_⟩
        rcases Nat.lt_or_ge j i with h8 | h8
        · exact h5 i h8 h7
        · have : i = j := by omega
          rw [this]; exact hp
      · rw [fstN_yes (by omega) hp]; exact ⟨hp, fun i h6 h7 => by omega⟩
  exact key _ 1 rfl (by omega) h
/-- What stands behind moves no cut ahead of the last chunk. -/
theorem cutL_local (l r : List UInt8) (h0 : 0 < l.length) : ∃ t, 0 < t.length ∧ cutL m d mask mn mx (l ++ r) = (cutL m d mask mn mx l).dropLast ++ t := by
  induction hn : l.length using Nat.strongRecOn generalizing l with
  | ind n ih =>
    have hf := cutF_le m d mask mn mx h0
    rcases Nat.lt_or_ge (cutF m d mask mn mx l) l.length with h1 | h1
    · obtain ⟨h2, h3⟩ := cutF_spec h1
      have hfe : cutF m d mask mn mx (l ++ r) = cutF m d mask mn mx l := cutF_at hf.1 (by rw [List.length_append]; omega) (fun i h4 h5 => by rw [cutP_take (by omega)]; exact h3 i h4 h5) (by rw [cutP_take (by omega)]; exact h2)
      have hd : 0 < (l.drop (cutF m d mask mn mx l)).length := by rw [List.length_drop]; omega
      obtain ⟨t, h4, h5⟩ := ih (l.drop (cutF m d mask mn mx l)).length (by rw [List.length_drop]; omega) _ hd rfl
      refine ⟨t, h4, ?_⟩
      rw [cutL_step _ _ _ _ _ (by rw [List.length_append]; omega), hfe, List.drop_append_of_le_length (by omega), h5, cutL_step _ _ _ _ _ h0, List.dropLast_cons_of_ne_nil ?_]
      · rfl
      · intro e
        have := cutL_some (m := m) (d := d) (mask := mask) (mn := mn) (mx := mx) hd
        rw [e] at this; simp at this
    · refine ⟨cutL m d mask mn mx (l ++ r), cutL_some (by rw [List.length_append]; omega), ?_⟩
      rw [cutL_step _ _ _ _ _ h0, List.drop_of_length_le h1, cutL_nil]
      rfl
end

end Go.Proofs.Ytkopdkamhkmefaa
