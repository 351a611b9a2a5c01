/- Spans as complex numbers; what Whole and Pick tell, and that the parts cover the span. No function of a program is named here. -/
import Derived.Test.YtfmbehjllkmfiaaSpaR
import Derived.Laws.FloatArith
namespace Go.Proofs.Ytfmbehjllkmfiaa
set_option maxRecDepth 100000
open Go Go.RowKit
set_option linter.unusedVariables false
set_option linter.unusedSimpArgs false

/-- A span as the complex number that it is. -/
def cxv (x : Nat × Nat) : Value := .complex .f64 (fi x.1) (fi x.2)
def cxs (L : List (Nat × Nat)) : List Value := L.map cxv
theorem cxs_len (L : List (Nat × Nat)) : (cxs L).length = L.length := by simp [cxs]
theorem cxs_at {L : List (Nat × Nat)} {k : Nat} (h : k < L.length) : (cxs L)[k]? = some (cxv L[k]) := by simp [cxs, h]
theorem cxs_one (L : List (Nat × Nat)) : ∀ v ∈ cxs L, v.oneCell' = true := by
  intro v hv
  obtain ⟨x, _, rfl⟩ := List.mem_map.1 hv
  rfl
theorem cxs_append (a b : List (Nat × Nat)) : cxs (a ++ b) = cxs a ++ cxs b := by simp [cxs]
/-- A span that may be. -/
def SpOk (x : Nat × Nat) : Prop := x.1 ≤ 1099511627776 ∧ x.2 ≤ 1099511627776
/-- A list of spans in memory. -/
structure Cxs (w : World) (A : Option Addr) (n c : Nat) (L : List (Nat × Nat)) : Prop where
  sl : Sl w w.heap.size A n (cxs L)
  len : n = L.length
  cap : n ≤ c
  none_ : A = none → c = 0
theorem Cxs.nx {w w' : World} {A : Option Addr} {n c : Nat} {L : List (Nat × Nat)} (h : Cxs w A n c L) (hb : Below w.heap.size w w') : Cxs w' A n c L := ⟨h.sl.nx hb, h.len, h.cap, h.none_⟩

theorem fi_far : fi 1099511627776 = 4787326403894837248 := by kernel_rfl
theorem ord_ge0 {n : Nat} (h : n ≤ 1099511627776) : (FloatKind.f64.format.order (fi n) 0 == some Ordering.gt || FloatKind.f64.format.order (fi n) 0 == some Ordering.eq) = true := by
  have h1 := order_fi (m := n) (n := 0) (by omega) (by omega)
  rw [fi_zero] at h1
  have h2 : FloatKind.f64.format = Ieee.double := rfl
  rw [h2, h1]
  rcases Nat.eq_zero_or_pos n with rfl | h3
  · rfl
  · have h4 : compare (n : Int) ((0 : Nat) : Int) = .gt := Int.compare_eq_gt.2 (by omega)
    rw [h4]
    rfl
theorem ord_lefar {n : Nat} (h : n ≤ 1099511627776) : (FloatKind.f64.format.order (fi n) 4787326403894837248 == some Ordering.lt || FloatKind.f64.format.order (fi n) 4787326403894837248 == some Ordering.eq) = true := by
  have h1 := order_fi (m := n) (n := 1099511627776) (by omega) (by omega)
  rw [fi_far] at h1
  have h2 : FloatKind.f64.format = Ieee.double := rfl
  rw [h2, h1]
  rcases Nat.lt_or_ge n 1099511627776 with h3 | h3
  · have h4 : compare (n : Int) ((1099511627776 : Nat) : Int) = .lt := Int.compare_eq_lt.2 (by omega)
    rw [h4]
    rfl
  · have h4 : compare (n : Int) ((1099511627776 : Nat) : Int) = .eq := Int.compare_eq_eq.2 (by omega)
    rw [h4]
    rfl
theorem toi_fi {n : Nat} (h : n ≤ 1099511627776) : floatToIntVal .f64 (fi n) .i64 = some (n : Int) := by
  have h1 := toInt_fi (n := n) (by omega)
  have h2 : FloatKind.f64.decode (fi n) = Ieee.double.read (fi n) := rfl
  have h3 : IntKind.i64.min = -9223372036854775808 := rfl
  have h4 : IntKind.i64.max = 9223372036854775807 := rfl
  unfold floatToIntVal
  rw [h2, h1]
  simp only [h3, h4]
  rw [if_pos (by omega)]
/-- Whole numbers as floats, and back. -/
theorem conv_fi {P : Program} {src dst : TypeId} {n : Nat} (hs : (P.underlying src).isSome = true) (hd : P.underlying dst = some (.int .i64)) (h : n ≤ 1099511627776) (w : World) : (convert src dst (.float .f64 (fi n))).run P w = .ok (.int .i64 (n : Int)) w :=
  run_convert_float_int w src dst .f64 .i64 (fi n) n hs hd (toi_fi h)

theorem csub_fi {a b c d : Nat} (ha : a < 2 ^ 53) (hb : b < 2 ^ 53) (h1 : c ≤ a) (h2 : d ≤ b) : cSumBits .sub .f64 (fi a) (fi b) (fi c) (fi d) = some (fi (a - c), fi (b - d)) := by
  have g1 : floatBits .sub .f64 (fi a) (fi c) = some (fi (a - c)) := sub_fi ha h1
  have g2 : floatBits .sub .f64 (fi b) (fi d) = some (fi (b - d)) := sub_fi hb h2
  unfold cSumBits
  rw [g1, g2]
  rfl
theorem cadd_fi {a b c d : Nat} (h1 : a + c < 2 ^ 53) (h2 : b + d < 2 ^ 53) : cSumBits .add .f64 (fi a) (fi b) (fi c) (fi d) = some (fi (a + c), fi (b + d)) := by
  have g1 : floatBits .add .f64 (fi a) (fi c) = some (fi (a + c)) := add_fi h1
  have g2 : floatBits .add .f64 (fi b) (fi d) = some (fi (b + d)) := add_fi h2
  unfold cSumBits
  rw [g1, g2]
  rfl

/-- Spans one behind the other, from s on. -/
def Seg : Nat → List (Nat × Nat) → Prop
  | _, [] => True
  | s, x :: r => x.1 = s ∧ s + x.2 ≤ 1099511627776 ∧ Seg (s + x.2) r
def tot (L : List (Nat × Nat)) : Nat := (L.map (·.2)).sum
theorem tot_cons (x : Nat × Nat) (r : List (Nat × Nat)) : tot (x :: r) = x.2 + tot r := by simp [tot]
theorem seg_ok : ∀ (s : Nat) (L : List (Nat × Nat)), Seg s L → ∀ x ∈ L, SpOk x
  | _, [], _ => fun x h => by cases h
  | s, y :: r, h => fun x hx => by
    obtain ⟨h1, h2, h3⟩ := h
    rcases List.mem_cons.1 hx with rfl | hx
    · exact ⟨by omega, by omega⟩
    · exact seg_ok _ r h3 x hx
theorem rowS_seg {zs : List Int} : ∀ {begin : Int} {L : List (Nat × Nat)}, 0 ≤ begin → rowS begin zs = some L → Seg begin.toNat L := by
  induction zs with
  | nil =>
    intro begin L _ h
    cases h
    trivial
  | cons n r ih =>
    intro begin L hb h
    unfold rowS at h
    split at h
    · rename_i hc
      obtain ⟨h1, h2⟩ := hc
      obtain ⟨L', hL', rfl⟩ := Option.map_eq_some_iff.1 h
      obtain ⟨n0, n1⟩ := spIn_iff.1 h1
      obtain ⟨m0, m1⟩ := spIn_iff.1 h2
      have h4 := ih (by omega) hL'
      refine ⟨rfl, ?_, ?_⟩
      · show begin.toNat + n.toNat ≤ _
        omega
      · have e : begin.toNat + n.toNat = (begin + n).toNat := by omega
        show Seg (begin.toNat + n.toNat) L'
        rw [e]
        exact h4
    · cases h

/-- Where a row that begins there ends; none: it is none. -/
def wholeAt : Nat → List (Nat × Nat) → Option Nat
  | at_, [] => some at_
  | at_, x :: r => if x.1 = at_ ∧ at_ + x.2 ≤ 1099511627776 then wholeAt (at_ + x.2) r else none
def wholeS : List (Nat × Nat) → Option (Nat × Nat)
  | [] => none
  | x :: r => (wholeAt x.1 (x :: r)).map fun e => (x.1, e - x.1)
theorem seg_whole : ∀ (s : Nat) (L : List (Nat × Nat)), Seg s L → wholeAt s L = some (s + tot L)
  | s, [], _ => rfl
  | s, x :: r, h => by
    obtain ⟨h1, h2, h3⟩ := h
    rw [wholeAt, if_pos ⟨h1, h2⟩, seg_whole _ r h3, tot_cons]
    congr 1
    omega
theorem wholeAt_ge : ∀ (L : List (Nat × Nat)) (s e : Nat), wholeAt s L = some e → s ≤ e
  | [], s, e, h => by injection h with h; omega
  | x :: r, s, e, h => by
    unfold wholeAt at h
    split at h
    · have := wholeAt_ge r _ _ h
      omega
    · cases h
theorem wholeAt_le : ∀ (L : List (Nat × Nat)) (s e : Nat), s ≤ 1099511627776 → wholeAt s L = some e → e ≤ 1099511627776
  | [], s, e, hs, h => by injection h with h; omega
  | x :: r, s, e, hs, h => by
    unfold wholeAt at h
    split at h
    · rename_i hc
      exact wholeAt_le r _ _ hc.2 h
    · cases h
theorem seg_wholeS {s : Nat} {L : List (Nat × Nat)} (h : Seg s L) (h0 : L ≠ []) : wholeS L = some (s, tot L) := by
  cases L with
  | nil => exact absurd rfl h0
  | cons x r =>
    have h1 := h.1
    show (wholeAt x.1 (x :: r)).map (fun e => (x.1, e - x.1)) = _
    rw [h1, seg_whole s _ h, Option.map_some]
    congr 2
    omega

/-- What a span and the bytes from b up to e have in common: where in the span it begins, and its size. -/
def meetN (x : Nat × Nat) (b e : Nat) : Option (Nat × Nat) := if min (x.1 + x.2) e ≤ max x.1 b then none else some (max x.1 b - x.1, min (x.1 + x.2) e - max x.1 b)
/-- The parts of the spans of a list that make up the bytes from b up to e. -/
def pickP (b e : Nat) : Nat → List (Nat × Nat) → List (Nat × Nat × Nat)
  | _, [] => []
  | k, x :: r => match meetN x b e with
    | none => pickP b e (k + 1) r
    | some y => (k, y.1, y.2) :: pickP b e (k + 1) r
def pickE (L : List (Nat × Nat)) (b n : Nat) : Int := match wholeS L with
  | none => 1
  | some x => if b < x.1 ∨ x.1 + x.2 < b + n then 6 else 0
def pickL (L : List (Nat × Nat)) (b n : Nat) : List (Nat × Nat × Nat) := if pickE L b n = 0 then pickP b (b + n) 0 L else []
/-- Parts as cells. -/
def ptC (l : List (Nat × Nat × Nat)) : List Value := l.flatMap fun x => [.int .i64 (x.1 : Int), .complex .f64 (fi x.2.1) (fi x.2.2)]
theorem ptC_len (l : List (Nat × Nat × Nat)) : (ptC l).length = l.length * 2 := by
  induction l with
  | nil => rfl
  | cons x l ih => simp only [ptC, List.flatMap_cons, List.length_append, List.length_cons, List.length_nil] at *; omega
theorem ptC_append (a b : List (Nat × Nat × Nat)) : ptC (a ++ b) = ptC a ++ ptC b := by simp [ptC]
theorem ptC_at : ∀ (l : List (Nat × Nat × Nat)) (k : Nat) (h : k < l.length), (ptC l)[k * 2]? = some (.int .i64 (l[k].1 : Int)) ∧ (ptC l)[k * 2 + 1]? = some (.complex .f64 (fi l[k].2.1) (fi l[k].2.2))
  | [], k, h => by cases h
  | x :: r, 0, h => ⟨rfl, rfl⟩
  | x :: r, k + 1, h => by
    have ih := ptC_at r k (by simpa using h)
    have e : ptC (x :: r) = [.int .i64 (x.1 : Int), .complex .f64 (fi x.2.1) (fi x.2.2)] ++ ptC r := by simp [ptC]
    rw [e]
    refine ⟨?_, ?_⟩
    · rw [List.getElem?_append_right (by simp; omega)]
      simp only [List.length_cons, List.length_nil, List.getElem_cons_succ]
      rw [show (k + 1) * 2 - (0 + 1 + 1) = k * 2 by omega]
      exact ih.1
    · rw [List.getElem?_append_right (by simp; omega)]
      simp only [List.length_cons, List.length_nil, List.getElem_cons_succ]
      rw [show (k + 1) * 2 + 1 - (0 + 1 + 1) = k * 2 + 1 by omega]
      exact ih.2

theorem spC_at : ∀ (l : List (Nat × Nat)) (k : Nat) (h : k < l.length), (spC l)[k * 2]? = some (.int .i64 (l[k].1 : Int)) ∧ (spC l)[k * 2 + 1]? = some (.int .i64 (l[k].2 : Int))
  | [], k, h => by cases h
  | x :: r, 0, h => ⟨rfl, rfl⟩
  | x :: r, k + 1, h => by
    have ih := spC_at r k (by simpa using h)
    have e : spC (x :: r) = [.int .i64 (x.1 : Int), .int .i64 (x.2 : Int)] ++ spC r := by simp [spC]
    rw [e]
    refine ⟨?_, ?_⟩
    · rw [List.getElem?_append_right (by simp; omega)]
      simp only [List.length_cons, List.length_nil, List.getElem_cons_succ]
      rw [show (k + 1) * 2 - (0 + 1 + 1) = k * 2 by omega]
      exact ih.1
    · rw [List.getElem?_append_right (by simp; omega)]
      simp only [List.length_cons, List.length_nil, List.getElem_cons_succ]
      rw [show (k + 1) * 2 + 1 - (0 + 1 + 1) = k * 2 + 1 by omega]
      exact ih.2
/-- Two cells of a row of elements of two. -/
theorem row_two {w : World} {B n : Nat} {xs : List Value} {ad : Addr} (h : Sl w B (some ad) n xs) {k : Nat} {a b : Value} (h1 : xs[k * 2]? = some a) (h2 : xs[k * 2 + 1]? = some b) : ∀ j v, ([a, b] : List Value)[j]? = some v → w.cell? ((ad.add (k * 2)).add j) = some v := by
  have hn : 0 < n := by
    rw [← h.1]
    exact Nat.lt_of_le_of_lt (Nat.zero_le _) (List.getElem?_eq_some_iff.1 h2).1
  obtain ⟨ad', e', _, hc⟩ := h.2 hn
  injection e' with e'
  subst e'
  intro j v hv
  rw [add_add]
  match j with
  | 0 => injection hv with hv; subst hv; exact hc _ _ h1
  | 1 => injection hv with hv; subst hv; exact hc _ _ h2
  | j + 2 => cases hv

/-- Parts that cover the bytes from a place up to e. -/
def Cov (L : List (Nat × Nat)) (e : Nat) : Nat → List (Nat × Nat × Nat) → Prop
  | at_, [] => at_ = e
  | at_, y :: r => (∃ x, L[y.1]? = some x ∧ x.1 + y.2.1 = at_ ∧ y.2.1 + y.2.2 ≤ x.2) ∧ 1 ≤ y.2.2 ∧ Cov L e (at_ + y.2.2) r
theorem pickP_none (b e : Nat) : ∀ (L : List (Nat × Nat)) (k s : Nat), Seg s L → e ≤ max s b → pickP b e k L = []
  | [], k, s, _, _ => rfl
  | x :: r, k, s, h, he => by
    obtain ⟨h1, h2, h3⟩ := h
    unfold pickP
    rw [meetN, if_pos (by omega)]
    exact pickP_none b e r (k + 1) _ h3 (by omega)
theorem pickP_cov (L0 : List (Nat × Nat)) (b e : Nat) (hbe : b < e) : ∀ (L : List (Nat × Nat)) (k s : Nat), L0.drop k = L → Seg s L → s < e → b ≤ s + tot L → e ≤ s + tot L → Cov L0 e (max s b) (pickP b e k L)
  | [], k, s, hd, _, h1, h2, h3 => by simp [tot] at h3; omega
  | x :: r, k, s, hd, h, h1, h2, h3 => by
    obtain ⟨g1, g2, g3⟩ := h
    have hk : L0[k]? = some x := by
      have h5 : (L0.drop k)[0]? = some x := by rw [hd]; rfl
      rw [List.getElem?_drop] at h5
      exact h5
    have hd2 : L0.drop (k + 1) = r := by rw [← List.drop_drop, hd]; rfl
    rw [tot_cons] at h2 h3
    unfold pickP
    by_cases hm : min (x.1 + x.2) e ≤ max x.1 b
    · rw [meetN, if_pos hm]
      have e1 : max s b = max (s + x.2) b := by omega
      rw [e1]
      exact pickP_cov L0 b e hbe r (k + 1) (s + x.2) hd2 g3 (by omega) (by omega) (by omega)
    · rw [meetN, if_neg hm]
      refine ⟨⟨x, hk, ?_, ?_⟩, ?_, ?_⟩
      · show x.1 + (max x.1 b - x.1) = max s b
        omega
      · show max x.1 b - x.1 + (min (x.1 + x.2) e - max x.1 b) ≤ x.2
        omega
      · show 1 ≤ min (x.1 + x.2) e - max x.1 b
        omega
      · show Cov L0 e (max s b + (min (x.1 + x.2) e - max x.1 b)) _
        have e1 : max s b + (min (x.1 + x.2) e - max x.1 b) = min (s + x.2) e := by omega
        rw [e1]
        by_cases hl : e ≤ s + x.2
        · rw [pickP_none b e r (k + 1) (s + x.2) g3 (by omega), Nat.min_eq_right hl]
          exact rfl
        · have e2 : min (s + x.2) e = max (s + x.2) b := by omega
          rw [e2]
          exact pickP_cov L0 b e hbe r (k + 1) (s + x.2) hd2 g3 (by omega) (by omega) (by omega)
theorem pickL_cov {L : List (Nat × Nat)} {s b n : Nat} (h : Seg s L) (he : pickE L b n = 0) : Cov L (b + n) b (pickL L b n) := by
  have h0 : L ≠ [] := by
    rintro rfl
    have h1 : pickE [] b n = 1 := rfl
    rw [h1] at he
    cases he
  unfold pickL
  rw [if_pos he]
  unfold pickE at he
  rw [seg_wholeS h h0] at he
  have hb : ¬ (b < s ∨ s + tot L < b + n) := by
    intro hc
    simp only at he
    rw [if_pos hc] at he
    cases he
  cases n with
  | zero =>
    rw [Nat.add_zero, pickP_none b b L 0 s h (by omega)]
    exact rfl
  | succ n =>
    have h5 := pickP_cov L b (b + (n + 1)) (by omega) L 0 s rfl h (by omega) (by omega) (by omega)
    rw [show max s b = b by omega] at h5
    exact h5
theorem cov_next {L : List (Nat × Nat)} {e : Nat} : ∀ {P : List (Nat × Nat × Nat)} {at_ k : Nat} (hk : k < P.length), Cov L e at_ (P.drop k) → (∃ x, L[P[k].1]? = some x ∧ x.1 + P[k].2.1 = at_ ∧ P[k].2.1 + P[k].2.2 ≤ x.2) ∧ 1 ≤ P[k].2.2 ∧ Cov L e (at_ + P[k].2.2) (P.drop (k + 1)) := by
  intro P at_ k hk h
  rw [List.drop_eq_getElem_cons hk] at h
  exact h
theorem cov_le {L : List (Nat × Nat)} {e : Nat} : ∀ {P : List (Nat × Nat × Nat)} {at_ : Nat}, Cov L e at_ P → at_ ≤ e
  | [], at_, h => Nat.le_of_eq h
  | y :: r, at_, h => by
    have := cov_le h.2.2
    omega
theorem pickP_len (b e : Nat) : ∀ (L : List (Nat × Nat)) (k : Nat), (pickP b e k L).length ≤ L.length
  | [], k => Nat.le_refl _
  | x :: r, k => by
    unfold pickP
    have := pickP_len b e r (k + 1)
    cases meetN x b e with
    | none => simp; omega
    | some y => simp; omega
theorem pickL_len (L : List (Nat × Nat)) (b n : Nat) : (pickL L b n).length ≤ L.length := by
  unfold pickL
  split
  · exact pickP_len _ _ _ _
  · simp
theorem rowL_len (begin : Int) (zs : List Int) : (rowL begin zs).length ≤ zs.length := by
  unfold rowL
  split
  · cases h : rowS begin zs with
    | none => simp
    | some L => simp [rowS_len h]
  · simp
theorem rowL_seg {begin : Int} {zs : List Int} (h : rowE begin zs = 0) : 0 ≤ begin ∧ begin ≤ 1099511627776 ∧ Seg begin.toNat (rowL begin zs) := by
  unfold rowE at h
  split at h
  · rename_i hc
    obtain ⟨h1, h2⟩ := hc
    obtain ⟨b0, b1⟩ := spIn_iff.1 h1
    refine ⟨b0, b1, ?_⟩
    unfold rowL
    rw [if_pos h1]
    obtain ⟨L, hL⟩ := Option.isSome_iff_exists.1 h2
    rw [hL]
    exact rowS_seg b0 hL
  · cases h
theorem rowL_ok (begin : Int) (zs : List Int) : ∀ x ∈ rowL begin zs, SpOk x := by
  unfold rowL
  split
  · rename_i h1
    cases h : rowS begin zs with
    | none => intro x hx; cases hx
    | some L => exact seg_ok _ _ (rowS_seg (spIn_iff.1 h1).1 h)
  · intro x hx; cases hx

/-- What Of tells. -/
def ofV (b n : Int) : Value := if spIn b = true ∧ spIn n = true then cxv (b.toNat, n.toNat) else .complex .f64 0 0
def ofE (b n : Int) : Int := if spIn b = true ∧ spIn n = true then 0 else 6
/-- What the program's Row tells. -/
def RowCPost (w : World) (L : List (Nat × Nat)) (E : Int) (e : Ending) (w' : World) : Prop := ∃ A' c', e = .returned (.tuple #[.slice A' L.length c', .int .i64 E]) ∧ Cxs w' A' L.length c' L ∧ Below w.heap.size w w'
/-- What Pick tells. -/
def PickPost (w : World) (P : List (Nat × Nat × Nat)) (E : Int) (e : Ending) (w' : World) : Prop := ∃ A' c', e = .returned (.tuple #[.slice A' P.length c', .int .i64 E]) ∧ Sl w' w'.heap.size A' (P.length * 2) (ptC P) ∧ Below w.heap.size w w'

end Go.Proofs.Ytfmbehjllkmfiaa
