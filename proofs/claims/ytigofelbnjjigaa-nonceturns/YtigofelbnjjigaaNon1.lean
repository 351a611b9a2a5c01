/- NonceTurns: the walk of the law. -/
import Derived.Test.YtigofelbnjjigaaNonX
namespace Go.Proofs.Ytigofelbnjjigaa
set_option maxRecDepth 100000
open Go Go.RowKit
set_option linter.unusedVariables false
set_option linter.unusedSimpArgs false

set_option maxHeartbeats 2000000 in
theorem nonceTurns_walk (v0 : Value) (a1 : Int) (w : World) (s0 : CnIn w v0) (w1 : (Lit.int .i64 a1).wf = true) :
    Calls Try.prog 4 #[v0, .int .i64 a1] w fun e w' => e = .returned (.bool true) ∧ Below w.heap.size w w' := by
  obtain ⟨e, l, rfl, _, _⟩ := s0
  clear w1
  obtain ⟨W, HW, b0, hb0, hsz, _, _⟩ := put_cn w e l 23
  have HB := Lib.hid b0
  have ht := nturn_any e l a1 W
  obtain ⟨ok, hok⟩ : ∃ ok, ok = cnok e l := ⟨_, rfl⟩
  have hrr := rnright_any e l
  rw [← hok] at hrr
  have HRR := Lib.hid hrr
  have hT : (turnC e l a1 = if ok = true ∧ e < a1 ∧ a1 ≤ 64 then cnt a1 l else cnt 0 0) ∧ (turnE e l a1 = if ok = true ∧ e < a1 ∧ a1 ≤ 64 then 0 else 1) := by unfold turnC turnE; rw [← hok]; exact ⟨rfl, rfl⟩
  clear hok hrr hsz
  rcases (show (ok = true ∧ ¬ a1 ≤ e ∧ ¬ 64 < a1) ∨ (ok = false ∨ (ok = true ∧ a1 ≤ e) ∨ (ok = true ∧ ¬ a1 ≤ e ∧ 64 < a1)) by rcases ok with _ | _ <;> simp <;> omega) with ⟨rfl, h1, h2⟩ | hbad
  · rw [if_pos ⟨rfl, by omega, by omega⟩, if_pos ⟨rfl, by omega, by omega⟩] at hT
    rw [hT.1, hT.2] at ht
    have HT := Lib.hid ht
    clear hT ht b0
    go_enter Try.func4, Try.ntmps4
    go_wp2_with (first
      | (refine wpList_box_agg rfl 23 _ rfl (cnt e l) rfl ?_; rw [HW.out])
      | (refine wpList_load_mid rfl 23 _ rfl _ _ rfl (cnt e l) _ HB.out.whole Try.underlying23 rfl size_cn ?_)
      | (go_at_call 13; refine HT.out.mono ?_; rintro r w3 ⟨rfl, hb3⟩; have b3 := HB.out.next hb3; obtain ⟨W4, HW4, hth, b4, hb4, hsz4, _, _⟩ := put_cn2 w3 a1 l 23; have b34 := b3.next hb4; have hbw := next (next hb0 hb3) hb4; have hc0 : W4.cell? ⟨w.heap.size, 0, none⟩ = some (.int .i64 e) := (by rw [b34.cell]; rfl); have hc1 : W4.cell? ⟨w.heap.size, 1, none⟩ = some (.int .i64 l) := (by rw [b34.cell]; rfl))
      | (refine wpList_alloc_zero rfl 23 rfl (cnt 0 0) zero_cn ?_)
      | (refine wpList_store_mid rfl 23 _ _ rfl _ _ (cnt a1 l).toArray rfl rfl hth size_cn (all_oneCell_toArray (cnt_one _ _)) ?_; rw [HW4.out])
      | (go_at_call 11; refine (HRR.out _).mono ?_; rintro r w5 ⟨rfl, rfl⟩)
      | (refine wpList_load_mid rfl 23 _ rfl _ _ rfl (cnt a1 l) _ b4.whole Try.underlying23 rfl size_cn ?_)
      | (refine wpList_build_to rfl 23 _ rfl (cnt a1 l) (built_cn a1 l) ?_)
      | (refine wpList_value rfl (.bool true) (exec_eql_cn _ _ _ _ a1 l a1 l rfl rfl rfl true (by simp)) ?_)
      | (go_at_call 12; refine (awake10_any _).mono ?_; rintro r w9 ⟨rfl, hb9⟩))
    go_ret
    exact ⟨rfl, next hbw hb9⟩
  · rw [if_neg (by rcases hbad with rfl | ⟨rfl, h⟩ | ⟨rfl, h, h'⟩ <;> simp <;> omega), if_neg (by rcases hbad with rfl | ⟨rfl, h⟩ | ⟨rfl, h, h'⟩ <;> simp <;> omega)] at hT
    rw [hT.1, hT.2] at ht
    have HT := Lib.hid ht
    clear hT ht b0
    go_enter Try.func4, Try.ntmps4
    rcases hbad with rfl | ⟨rfl, h1⟩ | ⟨rfl, h1, h2⟩
    all_goals
      go_wp2_with (first
        | (refine wpList_box_agg rfl 23 _ rfl (cnt e l) rfl ?_; rw [HW.out])
        | (refine wpList_load_mid rfl 23 _ rfl _ _ rfl (cnt e l) _ HB.out.whole Try.underlying23 rfl size_cn ?_)
        | (go_at_call 13; refine HT.out.mono ?_; rintro r w3 ⟨rfl, hb3⟩; have b3 := HB.out.next hb3; obtain ⟨W4, HW4, hth, b4, hb4, hsz4, _, _⟩ := put_cn2 w3 0 0 23; have b34 := b3.next hb4; have hbw := next (next hb0 hb3) hb4; have hc0 : W4.cell? ⟨w.heap.size, 0, none⟩ = some (.int .i64 e) := (by rw [b34.cell]; rfl); have hc1 : W4.cell? ⟨w.heap.size, 1, none⟩ = some (.int .i64 l) := (by rw [b34.cell]; rfl))
        | (refine wpList_alloc_zero rfl 23 rfl (cnt 0 0) zero_cn ?_)
        | (refine wpList_store_mid rfl 23 _ _ rfl _ _ (cnt 0 0).toArray rfl rfl hth size_cn (all_oneCell_toArray (cnt_one _ _)) ?_; rw [HW4.out])
        | (go_at_call 11; refine (HRR.out _).mono ?_; rintro r w5 ⟨rfl, rfl⟩)
        | (refine wpList_load_mid rfl 23 _ rfl _ _ rfl (cnt 0 0) _ b4.whole Try.underlying23 rfl size_cn ?_)
        | (refine wpList_build_to rfl 23 _ rfl (cnt 0 0) built_cn0 ?_)
        | (refine wpList_value rfl (.bool true) (exec_eql_cn _ _ _ _ 0 0 0 0 rfl rfl rfl true (by simp)) ?_)
        | (go_at_call 12; refine (awake10_any _).mono ?_; rintro r w9 ⟨rfl, hb9⟩))
      go_ret
      exact ⟨rfl, next hbw hb9⟩

end Go.Proofs.Ytigofelbnjjigaa
