/- Mod, Mul, Square, Divides of the reference. -/
import Derived.Test.YtkopdkamhkmefaaGfS
namespace Go.Proofs.Ytkopdkamhkmefaa
set_option maxRecDepth 100000
open Go Go.RowKit
set_option linter.unusedVariables false
set_option linter.unusedSimpArgs false

set_option maxHeartbeats 1000000 in
theorem rmod_any (a m : Nat) (w : World) (ha : a < 18446744073709551616) (hm : m < 18446744073709551616) (h0 : 0 < m) :
    Calls Try.prog 38 #[.int .u64 a, .int .u64 m] w fun e w' => e = .returned (.int .u64 (mdV a m : Nat)) ∧ Below w.heap.size w w' := by
  obtain ⟨d, hd, h63, hnb, hall⟩ := mdV_deg (a := a) h0 hm
  have hna := nb2_le ha
  obtain ⟨V, hV⟩ : ∃ V, V = mdV a m := ⟨_, rfl⟩
  rw [← hV]
  have HV : Hid (V = pr (bv 2 (bts m)) d (bv 2 (bts a))) := by unfold Hid; rw [bts_bv, bts_bv, hV, hall]
  have HD : Hid (Deg (bv 2 (bts m)) d) := by unfold Hid; rw [bts_bv]; exact hd
  obtain ⟨na, hnna⟩ : ∃ n, n = nb2 a := ⟨_, rfl⟩
  have HC1 := Lib.hid (coef_any a)
  have HC2 := Lib.hid (coef_any m)
  rw [← hnna] at HC1 hna
  rw [hnb] at HC2
  clear hV hd hall hnna hnb
  go_enter Try.func38, Try.ntmps38
  go_wp2_with fail
  refine (HC1.out w ha).mono ?_
  rintro e w1 ⟨A1, c1, rfl, o1, b1⟩
  go_wp2_with fail
  refine (HC2.out w1 hm).mono ?_
  rintro e w2 ⟨A2, c2, rfl, o2, b2⟩
  go_wp2_with fail
  refine (rest_any (bts a) (bts m) d V w2 _ _ A1 A2 na (d + 1) c1 c2 ((Sl.own o1).below b2) (own_none o1) (Sl.own o2) (bts_bt a) (bts_bt m) (b2.size) (Nat.le_refl _) (by omega) rfl HD.out h63 HV.out).mono ?_
  rintro e w3 ⟨z, A3, n3, c3, rfl, hn3, hz3, hv3, s3, b3⟩
  go_wp2_with fail
  refine (of12_any z w3 _ A3 n3 c3 s3 hz3 (by omega)).mono ?_
  rintro e w4 ⟨rfl, rfl⟩
  rw [hv3]
  go_wp2
  go_ret
  exact ⟨rfl, next (next b1 b2) b3⟩

theorem made_is {w w1 : World} {n : Nat} (hown : w1.ownsRow w.heap.size 3 1 (.slice (some ⟨w.heap.size, 0, none⟩) n n) n (madeCells (Value.int .i64 0).cells (n * 1)).toList) (hgrow : w.grownBy w1 none) :
    Bl w1 w.heap.size (is (List.replicate n 0)) 3 ∧ Below w.heap.size w w1 := by
  refine ⟨?_, (Below.refl w.heap.size w).grown hgrow (Nat.le_refl _) (by simp)⟩
  have hown1 : w1.ownsRow w.heap.size 3 1 (.slice (some ⟨w.heap.size, 0, none⟩) n n) n (is (List.replicate n 0)) := by
    rw [is_zeros]
    rw [Nat.mul_one, made_zeros] at hown
    exact hown
  exact block_of_own hown1

/-- Is a a multiple of f? -/
def dvB (f a : Nat) : Bool := decide (mdV a f = 0)
theorem dvB_iff {f a : Nat} (h0 : 0 < f) (hf : f < 18446744073709551616) : dvB f a = true ↔ Dv f a := by
  obtain ⟨d, hd, _, _, he⟩ := mdV_deg (a := a) h0 hf
  unfold dvB
  rw [decide_eq_true_iff, he, dv_pr hd]
theorem dvB_no {f a : Nat} (h0 : 0 < f) (hf : f < 18446744073709551616) (h : ¬ Dv f a) : dvB f a = false := by
  rcases hb : dvB f a with _ | _
  · rfl
  · exact absurd ((dvB_iff h0 hf).1 hb) h

end Go.Proofs.Ytkopdkamhkmefaa
