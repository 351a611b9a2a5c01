/- Layer 11, keyfile: the law's own of, same, few. -/
import Derived.Test.YtlnoopmblmkgkaaGreatDoorKefX
namespace Go.Proofs.YtlnoopmblmkgkaaGreatDoor
set_option maxRecDepth 100000
open Go Go.RowKit
set_option linter.unusedVariables false
set_option linter.unusedSimpArgs false

set_option maxHeartbeats 1000000 in
theorem of_any11 (A : Option Addr) (n c : Nat) (r nu : Int) (B : Option Addr) (m d : Nat) (w : World) :
    Calls Tryz.prog 19 #[.agg (fC A n c r nu B m d).toArray] w fun e w' => e = .returned (.agg (fC A n c r nu B m d).toArray) ∧ Below w.heap.size w w' := by
  obtain ⟨W0, HW0, b0, hb0, hsz0⟩ := put_f w (fC A n c r nu B m d) 35
  obtain ⟨W1, HW1, b1, hb1, hsz1⟩ := put_f W0 nilF 39
  obtain ⟨q0, q1, q2, q3⟩ := f_cells (b0.next hb1)
  obtain ⟨g, hg⟩ : ∃ g, g = W0.heap.size := ⟨_, rfl⟩
  have hlt : w.heap.size < g := by rw [hg]; exact b0.lt
  have HG : Hid (W0.heap.size = g) := hg.symm
  rw [← hg] at b1
  have hbw := next hb0 hb1
  clear hg hb0 hb1 b0 hsz0 hsz1
  go_enter Tryz.func19, Tryz.ntmps19
  go_wp2_with (first
    | (refine wpList_box_agg rfl 35 _ rfl (fC A n c r nu B m d) rfl ?_; rw [HW0.out])
    | (refine wpList_alloc_zero rfl 39 rfl nilF zero_rf ?_; rw [HW1.out, HG.out])
    | (refine wpList_build_to rfl 39 _ rfl (fC A n c r nu B m d) (built_rf _ _ _ _ _ _ _ _) ?_)
    | (refine wpList_store_mid rfl 39 _ _ rfl _ _ (fC A n c r nu B m d).toArray rfl rfl (b1.there_ (by simp [nilF, fC])) size_rf (all_oneCell_toArray (fC_one _ _ _ _ _ _ _ _)) ?_)
    | fail)
  exact ret_row Tryz.results19 rfl (b1.over (vs := fC A n c r nu B m d) rfl) Tryz.underlying39 rfl size_rf rfl ⟨rfl, below_setCells hbw (Nat.le_of_lt hlt) _ _⟩

/-- The bounds of the law's few. -/
def kfewP (n0 n1 n5 mn : Nat) (r : Int) : Prop := (r ≤ 32 ∨ 4096 < r) ∧ n0 ≤ 400 ∧ n1 ≤ 400 ∧ n5 ≤ 400 ∧ mn ≤ 10

def KfewPost (n0 n1 n5 mn : Nat) (r : Int) (e : Ending) : Prop := ∃ b, e = .returned (.bool b) ∧ (b = true → kfewP n0 n1 n5 mn r)

set_option maxHeartbeats 4000000 in
theorem kfew_any (A0 : Option Addr) (n0 c0 : Nat) (A1 : Option Addr) (n1 c1 : Nat) (r nu : Int) (M : Option Addr) (mn mc : Nat) (A5 : Option Addr) (n5 c5 : Nat) (x y : Int) (w : World) :
    Calls Tryz.prog 9 #[.agg (kaC A0 n0 c0 A1 n1 c1 r nu M mn mc A5 n5 c5 x y).toArray] w fun e w' => KfewPost n0 n1 n5 mn r e ∧ Below w.heap.size w w' := by
  obtain ⟨W0, HW0, b0, hb0, hsz0⟩ := put_f w (kaC A0 n0 c0 A1 n1 c1 r nu M mn mc A5 n5 c5 x y) 26
  have q0 : W0.cell? ⟨w.heap.size, 0, none⟩ = some (.slice A0 n0 c0) := b0.cell 0
  have q1 : W0.cell? ⟨w.heap.size, 1, none⟩ = some (.slice A1 n1 c1) := b0.cell 1
  have q2 : W0.cell? ⟨w.heap.size, 2, none⟩ = some (.int .i64 r) := b0.cell 2
  have q4 : W0.cell? ⟨w.heap.size, 4, none⟩ = some (.slice M mn mc) := b0.cell 4
  have q5 : W0.cell? ⟨w.heap.size, 5, none⟩ = some (.slice A5 n5 c5) := b0.cell 5
  clear b0 hsz0
  rcases (show (¬ r ≤ 32 ∧ ¬ 4096 < r) ∨ (r ≤ 32) ∨ (¬ r ≤ 32 ∧ 4096 < r) by omega) with ⟨r1, r2⟩ | hr
  · go_enter Tryz.func9, Tryz.ntmps9
    go_wp2_with (refine wpList_box_agg rfl 26 _ rfl (kaC A0 n0 c0 A1 n1 c1 r nu M mn mc A5 n5 c5 x y) rfl ?_; rw [HW0.out])
    go_ret
    exact ⟨⟨_, rfl, fun h => by cases h⟩, hb0⟩
  · have HR : Hid (r ≤ 32 ∨ 4096 < r) := by unfold Hid; rcases hr with h | ⟨_, h⟩ <;> omega
    rcases hr with r1 | ⟨r1, r2⟩
    all_goals
      rcases (show ¬ n0 ≤ 400 ∨ (n0 ≤ 400 ∧ ¬ n1 ≤ 400) ∨ (n0 ≤ 400 ∧ n1 ≤ 400 ∧ ¬ n5 ≤ 400) ∨ (n0 ≤ 400 ∧ n1 ≤ 400 ∧ n5 ≤ 400 ∧ ¬ mn ≤ 10) ∨ (n0 ≤ 400 ∧ n1 ≤ 400 ∧ n5 ≤ 400 ∧ mn ≤ 10) by omega) with h0 | ⟨h0, h1⟩ | ⟨h0, h1, h2⟩ | ⟨h0, h1, h2, h3⟩ | ⟨h0, h1, h2, h3⟩
      all_goals
        go_enter Tryz.func9, Tryz.ntmps9
        go_wp2_with (refine wpList_box_agg rfl 26 _ rfl (kaC A0 n0 c0 A1 n1 c1 r nu M mn mc A5 n5 c5 x y) rfl ?_; rw [HW0.out])
        go_ret
        first
          | exact ⟨⟨_, rfl, fun h => by cases h⟩, hb0⟩
          | exact ⟨⟨_, rfl, fun h => absurd (of_decide_eq_true h) (by omega)⟩, hb0⟩
          | exact ⟨⟨_, rfl, fun _ => ⟨HR.out, by omega, by omega, by omega, by omega⟩⟩, hb0⟩

end Go.Proofs.YtlnoopmblmkgkaaGreatDoor
