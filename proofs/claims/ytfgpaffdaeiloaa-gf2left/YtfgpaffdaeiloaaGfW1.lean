/- The walk of the law Gf2Left. -/
import Derived.Test.YtfgpaffdaeiloaaGfU
namespace Go.Proofs.Ytfgpaffdaeiloaa
set_option maxRecDepth 100000
open Go Go.RowKit
set_option linter.unusedVariables false
set_option linter.unusedSimpArgs false

theorem and_one (x : Nat) : ((x : Int) == (x : Int)) = true := by simp

set_option maxHeartbeats 1000000 in
theorem gf2Left_walk (a0 a1 : Int) (w : World) (w0 : (Lit.int .u64 a0).wf = true) (w1 : (Lit.int .u64 a1).wf = true) :
    Calls Try.prog 3 #[.int .u64 a0, .int .u64 a1] w fun e w' => e = .returned (.bool true) ∧ Below w.heap.size w w' := by
  obtain ⟨b0, b1⟩ := bounds_u64 w0
  obtain ⟨b2, b3⟩ := bounds_u64 w1
  clear w0 w1
  obtain ⟨a, rfl⟩ := Int.eq_ofNat_of_zero_le b0
  obtain ⟨m, rfl⟩ := Int.eq_ofNat_of_zero_le b2
  have ha : a < 18446744073709551616 := by omega
  have hm : m < 18446744073709551616 := by omega
  clear b0 b1 b2 b3
  have D1 := Lib.hid (degree_any a)
  have D2 := Lib.hid (rdegree_any a)
  have M1 := Lib.hid (mod_any a m)
  have AW := Lib.hid awake12_any
  obtain ⟨n, hn⟩ : ∃ n, n = nb2 a := ⟨_, rfl⟩
  have hn64 : n ≤ 64 := by rw [hn]; exact nb2_le ha
  rw [← hn] at D1 D2
  clear hn
  by_cases h0 : m = 0
  · subst h0
    rw [show mdV a 0 = 0 from rfl, show mdE 0 = 6 from rfl] at M1
    have M2 : Hid (∀ (w : World), a < 18446744073709551616 → 0 < 18446744073709551616 → Calls Try.prog 13 #[.int .u64 a, .int .u64 0] w fun e w' => e = .returned (.tuple #[.int .u64 0, .int .i64 6]) ∧ w = w') := M1
    clear M1
    go_enter Try.func3, Try.ntmps3
    go_wp2_with (first
      | (go_at_call 13; refine (M2.out _ ha (by decide)).mono ?_; rintro e w' ⟨rfl, rfl⟩)
      | (go_at_call 14; refine (D1.out _ ha).mono ?_; rintro e w' ⟨rfl, rfl⟩)
      | (go_at_call 15; refine (D2.out _ ha).mono ?_; rintro e w' ⟨rfl, rfl⟩)
      | (go_at_call 16; refine (AW.out _).mono ?_; rintro e w' ⟨rfl, rfl⟩)
      | fail)
    go_ret
    exact ⟨rfl, Below.refl _ _⟩
  · have hpos : 0 < m := by omega
    have M2 := Lib.hid (rmod_any a m)
    rw [mdE_pos hpos] at M1
    obtain ⟨V, hV⟩ : ∃ V, V = mdV a m := ⟨_, rfl⟩
    rw [← hV] at M1 M2
    have q0 : ((m : Int) == 0) = false := by simp; omega
    clear hV h0
    go_enter Try.func3, Try.ntmps3
    go_wp2_with (first
      | (go_at_call 13; refine (M1.out _ ha hm).mono ?_; rintro e w' ⟨rfl, rfl⟩)
      | (go_at_call 17; refine (M2.out _ ha hm hpos).mono ?_; rintro e w2 ⟨rfl, hb2⟩)
      | (go_at_call 14; refine (D1.out _ ha).mono ?_; rintro e w' ⟨rfl, rfl⟩)
      | (go_at_call 15; refine (D2.out _ ha).mono ?_; rintro e w' ⟨rfl, rfl⟩)
      | (go_at_call 16; refine (AW.out _).mono ?_; rintro e w' ⟨rfl, rfl⟩)
      | fail)
    go_ret
    exact ⟨rfl, hb2⟩

end Go.Proofs.Ytfgpaffdaeiloaa
