/- Layer 10, nonce: counters; Right, Turn; the reference's Right. -/
import Derived.Test.YtigofelbnjjigaaOrdB
import Derived.Test.YtigofelbnjjigaaPrtO
namespace Go.Proofs.Ytigofelbnjjigaa
set_option maxRecDepth 100000
open Go Go.RowKit
set_option linter.unusedVariables false
set_option linter.unusedSimpArgs false

/-- Is it a counter? -/
def cnok (e l : Int) : Bool := decide (0 ≤ e) && (decide (e ≤ 64) && (decide (0 ≤ l) && decide (l ≤ 1099511627776)))
theorem cnok_iff (e l : Int) : cnok e l = true ↔ 0 ≤ e ∧ e ≤ 64 ∧ 0 ≤ l ∧ l ≤ 1099511627776 := by unfold cnok; simp
/-- The cells of a counter. -/
def cnt (e l : Int) : List Value := [.int .i64 e, .int .i64 l]
theorem cnt_one (e l : Int) : ∀ v ∈ cnt e l, v.oneCell' = true := by
  intro v hv
  simp only [cnt, List.mem_cons, List.not_mem_nil, or_false] at hv
  rcases hv with rfl | rfl <;> rfl

theorem size_cn : (Try.prog.info? 23).map (·.size) = some 2 := by kernel_rfl

theorem zero_cn : (Try.prog.info? 23).map (·.zero) = some (some (.agg (cnt 0 0).toArray)) := by kernel_rfl

theorem built_cn0 : Try.prog.built 23 [] = some (cnt 0 0).toArray := by kernel_rfl

theorem built_cn (e l : Int) : Try.prog.built 23 [(0, .int .i64 e), (1, .int .i64 l)] = some (cnt e l).toArray := by kernel_rfl

/-- A counter in a new variable: the world behind it under a name. -/
theorem put_cn (w : World) (e l : Int) (T : TypeId) : ∃ W, Hid (w.alloc (.cells (cnt e l).toArray T) = W) ∧ Bl W w.heap.size (cnt e l) T ∧ Below w.heap.size w W ∧ W.heap.size = w.heap.size + 1 ∧ W.cell? ⟨w.heap.size, 0, none⟩ = some (.int .i64 e) ∧ W.cell? ⟨w.heap.size, 1, none⟩ = some (.int .i64 l) := by
  have b0 := Bl.new w (cnt e l) T
  exact ⟨_, (rfl : _ = _), b0, (Below.refl _ w).alloc (Nat.le_refl _) _, alloc_size w _, by rw [b0.cell]; rfl, by rw [b0.cell]; rfl⟩

set_option maxHeartbeats 400000 in
theorem nright_any (e l : Int) (w : World) : Calls Try.prog 10 #[.agg (cnt e l).toArray] w fun r w' => r = .returned (.bool (cnok e l)) ∧ Below w.heap.size w w' := by
  obtain ⟨W, HW, b0, hb0, hsz, hc0, hc1⟩ := put_cn w e l 23
  obtain ⟨r, hr⟩ : ∃ r, r = cnok e l := ⟨_, rfl⟩
  rw [← hr]
  have HR := Lib.hid hr
  clear hr hsz b0
  go_enter Try.func10, Try.ntmps10
  rcases (show ¬ 0 ≤ e ∨ (0 ≤ e ∧ ¬ e ≤ 64) ∨ (0 ≤ e ∧ e ≤ 64 ∧ ¬ 0 ≤ l) ∨ (0 ≤ e ∧ e ≤ 64 ∧ 0 ≤ l ∧ ¬ l ≤ 1099511627776) ∨ (0 ≤ e ∧ e ≤ 64 ∧ 0 ≤ l ∧ l ≤ 1099511627776) by omega) with h1 | ⟨h1, h2⟩ | ⟨h1, h2, h3⟩ | ⟨h1, h2, h3, h4⟩ | ⟨h1, h2, h3, h4⟩
  all_goals
    go_wp2_with (refine wpList_box_agg rfl 23 _ rfl (cnt e l) rfl ?_; rw [HW.out])
    go_ret
    exact ⟨ret_bool (by rw [HR.out]; unfold cnok; simp_all <;> omega), hb0⟩

theorem rnright_any (e l : Int) (w : World) : Calls Try.prog 11 #[.int .i64 e, .int .i64 l] w fun r w' => r = .returned (.bool (cnok e l)) ∧ w = w' := by
  obtain ⟨r, hr⟩ : ∃ r, r = cnok e l := ⟨_, rfl⟩
  rw [← hr]
  have HR := Lib.hid hr
  clear hr
  go_enter Try.func11, Try.ntmps11
  rcases (show ¬ 0 ≤ e ∨ (0 ≤ e ∧ ¬ e ≤ 64) ∨ (0 ≤ e ∧ e ≤ 64 ∧ ¬ 0 ≤ l) ∨ (0 ≤ e ∧ e ≤ 64 ∧ 0 ≤ l ∧ ¬ l ≤ 1099511627776) ∨ (0 ≤ e ∧ e ≤ 64 ∧ 0 ≤ l ∧ l ≤ 1099511627776) by omega) with h1 | ⟨h1, h2⟩ | ⟨h1, h2, h3⟩ | ⟨h1, h2, h3, h4⟩ | ⟨h1, h2, h3, h4⟩
  all_goals
    go_wp2
    go_ret
    exact ⟨ret_bool (by rw [HR.out]; unfold cnok; simp_all <;> omega), rfl⟩

/-- What Turn tells. -/
def turnE (e l ep : Int) : Int := if cnok e l = true ∧ e < ep ∧ ep ≤ 64 then 0 else 1
def turnC (e l ep : Int) : List Value := if cnok e l = true ∧ e < ep ∧ ep ≤ 64 then cnt ep l else cnt 0 0

set_option maxHeartbeats 1000000 in
theorem nturn_any (e l ep : Int) (w : World) : Calls Try.prog 13 #[.agg (cnt e l).toArray, .int .i64 ep] w fun r w' => r = .returned (.tuple #[.agg (turnC e l ep).toArray, .int .i64 (turnE e l ep)]) ∧ Below w.heap.size w w' := by
  obtain ⟨W, HW, b0, hb0, hsz, hc0, hc1⟩ := put_cn w e l 23
  obtain ⟨W2, HW2, b2, hb2, hsz2, _, _⟩ := put_cn W 0 0 23
  have bc := b0.next hb2
  have hbb := next hb0 hb2
  obtain ⟨g, hg⟩ : ∃ g, g = W.heap.size := ⟨_, rfl⟩
  have hgl : w.heap.size < g := by omega
  rw [← hg] at b2
  have HG := Lib.hid hg
  have HBC := Lib.hid bc
  obtain ⟨ok, hok⟩ : ∃ ok, ok = cnok e l := ⟨_, rfl⟩
  obtain ⟨R, hR⟩ : ∃ R, R = turnC e l ep := ⟨_, rfl⟩
  obtain ⟨E, hE⟩ : ∃ E, E = turnE e l ep := ⟨_, rfl⟩
  rw [← hR, ← hE]
  unfold turnC at hR
  unfold turnE at hE
  have hcall := nright_any e l W2
  rw [← hok] at hR hE hcall
  have HR := Lib.hid hR
  have HE := Lib.hid hE
  have HC := Lib.hid hcall
  clear hok hR hE hcall hsz hsz2 hg hc0 hc1 b0 bc hb0 hb2
  go_enter Try.func13, Try.ntmps13
  rcases (show ok = false ∨ (ok = true ∧ ep ≤ e) ∨ (ok = true ∧ ¬ ep ≤ e ∧ 64 < ep) ∨ (ok = true ∧ ¬ ep ≤ e ∧ ¬ 64 < ep) by rcases ok with _ | _ <;> simp <;> omega) with rfl | ⟨rfl, h1⟩ | ⟨rfl, h1, h2⟩ | ⟨rfl, h1, h2⟩
  all_goals
    go_wp2_with (first
      | (refine wpList_box_agg rfl 23 _ rfl (cnt e l) rfl ?_; rw [HW.out])
      | (refine wpList_alloc_zero rfl 23 rfl (cnt 0 0) zero_cn ?_; rw [HW2.out, ← HG.out])
      | (refine wpList_load_mid rfl 23 _ rfl _ _ rfl (cnt e l) _ HBC.out.whole Try.underlying23 rfl size_cn ?_)
      | (go_at_call 10; refine HC.out.mono ?_; rintro r w3 ⟨rfl, hb3⟩; have b3 := b2.next hb3; have bc3 := HBC.out.next hb3; have hbw := next hbb hb3; have hc0 : w3.cell? ⟨w.heap.size, 0, none⟩ = some (.int .i64 e) := (by rw [bc3.cell]; rfl); have hc1 : w3.cell? ⟨w.heap.size, 1, none⟩ = some (.int .i64 l) := (by rw [bc3.cell]; rfl))
      | (refine wpList_build_to rfl 23 _ rfl (cnt 0 0) built_cn0 ?_)
      | (refine wpList_build_to rfl 23 _ rfl (cnt ep l) (built_cn ep l) ?_)
      | (refine wpList_store_mid rfl 23 _ _ rfl _ _ (cnt 0 0).toArray rfl rfl (b3.there_ (by simp [cnt])) size_cn (all_oneCell_toArray (cnt_one _ _)) ?_)
      | (refine wpList_store_mid rfl 23 _ _ rfl _ _ (cnt ep l).toArray rfl rfl (b3.there_ (by simp [cnt])) size_cn (all_oneCell_toArray (cnt_one _ _)) ?_))
  · have e1 : R = cnt 0 0 := by rw [HR.out, if_neg (by simp)]
    have e2 : E = 1 := by rw [HE.out, if_neg (by simp)]
    subst e1; subst e2
    exact ret_row_tmp Try.results13 rfl (b3.over (vs := cnt 0 0) rfl) Try.underlying23 rfl size_cn rfl ⟨rfl, below_setCells hbw (by omega) _ _⟩
  · have e1 : R = cnt 0 0 := by rw [HR.out, if_neg (by omega)]
    have e2 : E = 1 := by rw [HE.out, if_neg (by omega)]
    subst e1; subst e2
    exact ret_row_tmp Try.results13 rfl (b3.over (vs := cnt 0 0) rfl) Try.underlying23 rfl size_cn rfl ⟨rfl, below_setCells hbw (by omega) _ _⟩
  · have e1 : R = cnt 0 0 := by rw [HR.out, if_neg (by omega)]
    have e2 : E = 1 := by rw [HE.out, if_neg (by omega)]
    subst e1; subst e2
    exact ret_row_tmp Try.results13 rfl (b3.over (vs := cnt 0 0) rfl) Try.underlying23 rfl size_cn rfl ⟨rfl, below_setCells hbw (by omega) _ _⟩
  · have e1 : R = cnt ep l := by rw [HR.out, if_pos ⟨by trivial, by omega, by omega⟩]
    have e2 : E = 0 := by rw [HE.out, if_pos ⟨by trivial, by omega, by omega⟩]
    subst e1; subst e2
    exact ret_row_tmp Try.results13 rfl (b3.over (vs := cnt ep l) rfl) Try.underlying23 rfl size_cn rfl ⟨rfl, below_setCells hbw (by omega) _ _⟩

end Go.Proofs.Ytigofelbnjjigaa
