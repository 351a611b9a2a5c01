/- In, Is, Row of the reference of package span. -/
import Derived.Test.YtfmbehjllkmfiaaRows
import Derived.Test.YtfmbehjllkmfiaaLG
import Derived.Test.YtfmbehjllkmfiaaFloG
import Derived.IntWalk
import Derived.Laws.ComplexArith
import Derived.Laws.Cover2
namespace Go.Proofs.Ytfmbehjllkmfiaa
set_option maxRecDepth 100000
open Go Go.RowKit
set_option linter.unusedVariables false
set_option linter.unusedSimpArgs false

/-- May a place be? -/
def spIn (n : Int) : Bool := decide (0 ≤ n) && decide (n ≤ 1099511627776)
theorem spIn_iff {n : Int} : spIn n = true ↔ 0 ≤ n ∧ n ≤ 1099511627776 := by unfold spIn; simp

theorem rin15_any (n : Int) (w : World) :
    Calls Try.prog 13 #[.int .i64 n] w fun e w' => e = .returned (.bool (spIn n)) ∧ w = w' := by
  have HC : Hid (spIn n = (decide (0 ≤ n) && decide (n ≤ 1099511627776))) := rfl
  rw [HC.out]
  clear HC
  go_enter Try.func13, Try.ntmps13
  go_wp2
  all_goals go_ret
  all_goals refine ⟨ret_bool ?_, rfl⟩
  all_goals first | (simp [*]; done) | (simp_all; done) | (simp_all; omega)

theorem foi (n : Nat) : floatOfInt FloatKind.f64 (n : Int) = fi n := by
  have h1 : decide ((n : Int) < 0) = false := decide_eq_false (by omega)
  have h2 : floatOfInt FloatKind.f64 (n : Int) = FloatKind.f64.encode (.number (decide ((n : Int) < 0)) (n : Int).natAbs 0) := rfl
  rw [h2, h1, Int.natAbs_natCast]
  rfl
theorem ord_eq {n : Nat} (h : n ≤ 1099511627776) : (FloatKind.f64.format.order (fi n) (fi n) == some Ordering.eq) = true := by
  have h1 := order_fi (m := n) (n := n) (by omega) (by omega)
  have h2 : FloatKind.f64.format = Ieee.double := rfl
  rw [h2, h1, Int.compare_eq_eq.2 rfl]
  rfl

set_option maxHeartbeats 1000000 in
theorem ris15_any (b n : Nat) (w : World) (hb : b ≤ 1099511627776) (hn : n ≤ 1099511627776) :
    Calls Try.prog 8 #[.complex .f64 (fi b) (fi n), .agg #[.int .i64 (b : Int), .int .i64 (n : Int)]] w fun e w' => e = .returned (.bool true) ∧ Below w.heap.size w w' := by
  obtain ⟨W0, HW0, b0, hb0, hsz0⟩ := put_f w [.int .i64 (b : Int), .int .i64 (n : Int)] 34
  have c0 : W0.cell? ⟨w.heap.size, 0, none⟩ = some (.int .i64 (b : Int)) := b0.cell 0
  have c1 : W0.cell? ⟨w.heap.size, 1, none⟩ = some (.int .i64 (n : Int)) := b0.cell 1
  have e1 := foi b
  have e2 := foi n
  have o1 := ord_eq hb
  have o2 := ord_eq hn
  clear hsz0
  go_enter Try.func8, Try.ntmps8
  go_wp2_with (first
    | (refine wpList_box_agg rfl 34 _ rfl [.int .i64 (b : Int), .int .i64 (n : Int)] rfl ?_; rw [HW0.out])
    | fail)
  go_ret
  exact ⟨rfl, hb0⟩

/-- A row of spans, or that there is none: where each begins, and how many bytes it has. -/
def rowS (begin : Int) : List Int → Option (List (Nat × Nat))
  | [] => some []
  | n :: r => if spIn n = true ∧ spIn (begin + n) = true then (rowS (begin + n) r).map ((begin.toNat, n.toNat) :: ·) else none
def rowL (begin : Int) (zs : List Int) : List (Nat × Nat) := if spIn begin = true then (rowS begin zs).getD [] else []
def rowE (begin : Int) (zs : List Int) : Int := if spIn begin = true ∧ (rowS begin zs).isSome = true then 0 else 6
/-- Spans as cells. -/
def spC (l : List (Nat × Nat)) : List Value := l.flatMap fun x => [.int .i64 (x.1 : Int), .int .i64 (x.2 : Int)]
theorem spC_len (l : List (Nat × Nat)) : (spC l).length = l.length * 2 := by
  induction l with
  | nil => rfl
  | cons x l ih => simp only [spC, List.flatMap_cons, List.length_append, List.length_cons, List.length_nil] at *; omega
theorem spC_append (a b : List (Nat × Nat)) : spC (a ++ b) = spC a ++ spC b := by simp [spC]
theorem rowS_len {begin : Int} {zs : List Int} {l : List (Nat × Nat)} (h : rowS begin zs = some l) : l.length = zs.length := by
  induction zs generalizing begin l with
  | nil => cases h; rfl
  | cons n r ih =>
    unfold rowS at h
    split at h
    · obtain ⟨l', h', rfl⟩ := Option.map_eq_some_iff.1 h
      simp [ih h']
    · cases h
theorem span_info : (Try.prog.info? 34).map (fun i => (i.zero, i.size, i.bytes)) = some (some (.agg #[.int .i64 0, .int .i64 0]), 2, 16) := by kernel_rfl

/-- What Row tells. -/
def RowPost (w : World) (l : List (Nat × Nat)) (E : Int) (e : Ending) (w' : World) : Prop := ∃ A' c', e = .returned (.tuple #[.slice A' l.length c', .int .i64 E]) ∧ Sl w' w'.heap.size A' (l.length * 2) (spC l) ∧ Below w.heap.size w w'

set_option maxRecDepth 100000 in
set_option maxHeartbeats 2000000 in
theorem rrow15_any (begin : Int) (zs : List Int) (w : World) (A : Option Addr) (n c : Nat) (h : Sl w w.heap.size A n (iz zs)) (hn : n ≤ 1000000) (hwf : ∀ z ∈ zs, (Lit.int .i64 z).wf = true) :
    Calls Try.prog 7 #[.int .i64 begin, .slice A n c] w (RowPost w (rowL begin zs) (rowE begin zs)) := by
  obtain ⟨i0, hi, hz0, hz1, hz2⟩ := info_parts span_info
  have hnl : n = zs.length := by rw [← h.1, iz_len]
  obtain ⟨L, hL⟩ : ∃ L, L = rowL begin zs := ⟨_, rfl⟩
  obtain ⟨EE, hEE⟩ : ∃ L, L = rowE begin zs := ⟨_, rfl⟩
  rw [← hL, ← hEE]
  by_cases hb0 : spIn begin = true
  · obtain ⟨r, hr⟩ : ∃ r, r = rowS begin zs := ⟨_, rfl⟩
    have HL : Hid (L = r.getD []) := by unfold Hid; rw [hL]; unfold rowL; rw [if_pos hb0, hr]
    have HE : Hid (EE = if r.isSome = true then 0 else 6) := by unfold Hid; rw [hEE]; unfold rowE; rw [hr]; simp [hb0]
    have HR := Lib.hid hr
    have HNL := Lib.hid hnl
    have HS := Lib.hid h
    have HWF := Lib.hid hwf
    obtain ⟨g1, g2⟩ := spIn_iff.1 hb0
    have HB0 := Lib.hid hb0
    clear hr hnl h hwf hb0 hL hEE
    go_enter Try.func7, Try.ntmps7
    go_wp2_with fail
    refine (rin15_any begin w).mono ?_
    rw [HB0.out]
    rintro e w1 ⟨rfl, rfl⟩
    go_wp2
    go_loopw [0, 6, 7] (fun b v i wr => ∃ (k : Nat) (at_ : Int) (z : List (Nat × Nat)), k ≤ n ∧ i = .int .i64 (k : Int) ∧ b = .int .i64 at_ ∧ 0 ≤ at_ ∧ at_ ≤ 1099511627776 ∧ z.length = k ∧ r = (rowS at_ (zs.drop k)).map (z ++ ·) ∧ wr.ownsRow w.heap.size 34 2 v k (spC z) ∧ Below w.heap.size w wr) (fun _ _ i _ => n - (intOf i).toNat)
    case atStart => exact ⟨0, begin, [], Nat.zero_le _, rfl, rfl, g1, g2, rfl, by rw [HR.out, List.drop_zero]; cases rowS begin zs <;> simp, World.ownsRow_nil _ _ _ _, Below.refl _ _⟩
    case round =>
      obtain ⟨k, at_, z, hk, rfl, rfl, ha1, ha2, hzl, hrr, hown, hb⟩ := hrel
      by_cases hlt : k < n
      · have hkl : k < zs.length := by have := HNL.out; omega
        obtain ⟨ad, rfl, hab, hac⟩ := HS.out.2 (by omega)
        obtain ⟨x, hx⟩ : ∃ x, x = zs[k] := ⟨_, rfl⟩
        have hcx : wr.cell? (ad.add k) = some (.int .i64 x) := (hb.cell (by rw [add_block]; exact hab)).trans (by rw [hac k _ (iz_at hkl), hx])
        have hdrop : zs.drop k = x :: zs.drop (k + 1) := by rw [List.drop_eq_getElem_cons hkl, hx]
        rw [hdrop] at hrr
        have k0 : (0 : Int) ≤ (k : Int) := by omega
        have k1 : (k : Int) < (n : Int) := by omega
        have HZL := Lib.hid hzl
        clear hx hdrop hkl hac hzl
        rcases hs1 : spIn x with _ | _
        · have HN : Hid (r = none) := by unfold Hid; rw [hrr, rowS, if_neg (by rw [hs1]; simp)]; rfl
          have H1 := Lib.hid hs1
          clear hrr hs1
          go_wp2_with fail
          refine (rin15_any x wr).mono ?_
          rw [H1.out]
          rintro e w2 ⟨rfl, rfl⟩
          go_wp2
          go_ret2
          exact ⟨none, 0, by rw [HL.out, HE.out, HN.out]; rfl, by rw [HL.out, HN.out]; exact Sl.nil_, hb⟩
        · obtain ⟨x1, x2⟩ := spIn_iff.1 hs1
          have H1 := Lib.hid hs1
          obtain ⟨y, hy⟩ : ∃ y, y = at_ + x := ⟨_, rfl⟩
          have ey : at_ + x = y := hy.symm
          rcases hs2 : spIn y with _ | _
          · have HN : Hid (r = none) := by unfold Hid; rw [hrr, rowS, if_neg (by rw [ey, hs2]; simp)]; rfl
            have H2 := Lib.hid hs2
            clear hrr hs1 hs2 hy
            go_wp2_with fail
            refine (rin15_any x wr).mono ?_
            rw [H1.out]
            rintro e w2 ⟨rfl, rfl⟩
            go_wp2_with fail
            refine (rin15_any y wr).mono ?_
            rw [H2.out]
            rintro e w2 ⟨rfl, rfl⟩
            go_wp2
            go_ret2
            exact ⟨none, 0, by rw [HL.out, HE.out, HN.out]; rfl, by rw [HL.out, HN.out]; exact Sl.nil_, hb⟩
          · obtain ⟨y1, y2⟩ := spIn_iff.1 hs2
            obtain ⟨an, rfl⟩ := Int.eq_ofNat_of_zero_le ha1
            obtain ⟨xn, rfl⟩ := Int.eq_ofNat_of_zero_le x1
            have HNX : Hid (r = (rowS y (zs.drop (k + 1))).map ((z ++ [(an, xn)]) ++ ·)) := by
              unfold Hid
              rw [hrr, rowS, if_pos ⟨hs1, by rw [ey]; exact hs2⟩, ey]
              simp only [Int.toNat_natCast]
              cases rowS y (zs.drop (k + 1)) <;> simp
            have H2 := Lib.hid hs2
            have hsz := hb.size
            have HC := Lib.hid hcx
            clear hrr hs1 hs2 hy
            go_wp2_with fail
            refine (rin15_any xn wr).mono ?_
            rw [H1.out]
            rintro e w2 ⟨rfl, rfl⟩
            go_wp2_with fail
            refine (rin15_any y wr).mono ?_
            rw [H2.out]
            rintro e w2 ⟨rfl, rfl⟩
            go_wp2_with (at_builtin; refine wpList_append_slK _ rfl _ _ 28 rfl w.heap.size 34 i0 (.agg #[.int .i64 0, .int .i64 0]) 2 16 Try.underlying28 hi hz0 hz1 hz2 rfl (by decide) _ k (spC z) rfl (hown.alloc _) _ (some ⟨wr.heap.size, 0, none⟩) 1 1 [.int .i64 (an : Int), .int .i64 (xn : Int)] rfl (Sl.new wr #[.int .i64 (an : Int), .int .i64 (xn : Int)] 34) (by intro h; cases h) (by intro u hu; simp at hu; rcases hu with rfl | rfl <;> rfl) (by unfold maxLen; omega) (by omega) (by simp; omega) ?_; intro v' w3 hown' hgrow hat; have hb3 := below_app (hb.alloc hb.size _) (Nat.le_refl _) (hown.alloc _) hgrow; have hcx3 : w3.cell? (ad.add k) = some (.int .i64 (xn : Int)) := (hb3.cell (by rw [add_block]; exact hab)).trans ((hb.cell (by rw [add_block]; exact hab)).symm.trans HC.out))
            go_roundw
            case rel => exact ⟨k + 1, y, z ++ [(an, xn)], by omega, by go_num, rfl, y1, y2, by simp [HZL.out], HNX.out, by rw [spC_append]; exact hown', hb3⟩
            case measure => simp [intOf]; omega
      · have hkn : k = n := by omega
        have HN : Hid (r = some z) := by
          unfold Hid
          rw [hrr, hkn, List.drop_of_length_le (by rw [← HNL.out]; exact Nat.le_refl _), rowS]
          simp
        obtain ⟨A2, c2, rfl⟩ := ownK_form hown
        have hso := slK_own hown
        have q1 : ¬ (k : Int) < (n : Int) := by omega
        have HZL := Lib.hid hzl
        clear hrr hkn
        go_wp2
        go_ret2
        refine ⟨A2, c2, by rw [HL.out, HE.out, HN.out]; simp [HZL.out], ?_, hb⟩
        rw [HL.out, HN.out]
        simp only [Option.getD_some, HZL.out]
        exact hso.1
  · have hf : spIn begin = false := by simpa using hb0
    have HL : Hid (L = []) := by unfold Hid; rw [hL]; unfold rowL; rw [if_neg hb0]
    have HE : Hid (EE = 6) := by unfold Hid; rw [hEE]; unfold rowE; rw [if_neg (by rintro ⟨h1, _⟩; exact hb0 h1)]
    have HF := Lib.hid hf
    clear hf hb0 hL hEE
    go_enter Try.func7, Try.ntmps7
    go_wp2_with fail
    refine (rin15_any begin w).mono ?_
    rw [HF.out]
    rintro e w1 ⟨rfl, rfl⟩
    go_wp2
    go_ret2
    exact ⟨none, 0, by rw [HL.out, HE.out]; rfl, by rw [HL.out]; exact Sl.nil_, Below.refl _ _⟩

end Go.Proofs.Ytfmbehjllkmfiaa
