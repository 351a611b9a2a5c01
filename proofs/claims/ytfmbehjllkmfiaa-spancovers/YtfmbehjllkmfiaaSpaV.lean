/- The law's own function awake, of package span. -/
import Derived.Test.YtfmbehjllkmfiaaSpaT
import Derived.Laws.StructEq
import Derived.Laws.Cover3
namespace Go.Proofs.Ytfmbehjllkmfiaa
set_option maxRecDepth 100000
open Go Go.RowKit
set_option linter.unusedVariables false
set_option linter.unusedSimpArgs false

theorem fi_1 : fi 1 = 4607182418800017408 := by kernel_rfl
theorem fi_2 : fi 2 = 4611686018427387904 := by kernel_rfl
theorem fi_5 : fi 5 = 4617315517961601024 := by kernel_rfl
theorem fi_6 : fi 6 = 4618441417868443648 := by kernel_rfl
theorem fi_7 : fi 7 = 4619567317775286272 := by kernel_rfl
theorem row_awake : rowL 0 [3, 4, 5] = [(0, 3), (3, 4), (7, 5)] ∧ rowE 0 [3, 4, 5] = 0 := by decide
theorem pick_awake : pickL [(0, 3), (3, 4), (7, 5)] 2 6 = [(0, 2, 1), (1, 0, 4), (2, 0, 1)] ∧ pickE [(0, 3), (3, 4), (7, 5)] 2 6 = 0 := by decide
theorem built_pt0 : Try.prog.built 42 [(0, .int .i64 0), (1, .complex .f64 4611686018427387904 4607182418800017408)] = some ([.int .i64 0, .complex .f64 4611686018427387904 4607182418800017408] : List Value).toArray := by kernel_rfl
theorem built_pt2 : Try.prog.built 42 [(0, .int .i64 2), (1, .complex .f64 0 4607182418800017408)] = some ([.int .i64 2, .complex .f64 0 4607182418800017408] : List Value).toArray := by kernel_rfl
theorem size_part : (Try.prog.info? 42).map (·.size) = some 2 := by kernel_rfl
theorem load_2 {w : World} {B : Nat} {A : Option Addr} {n : Nat} {xs : List Value} (h : Sl w B A n xs) {ad : Addr} (e : A = some ad) (hn : 0 < n) (o : Nat) (cs : List Value) (hc : ∀ j v, cs[j]? = some v → xs[o + j]? = some v) : ∀ j v, cs[j]? = some v → w.cell? ((ad.add o).add j) = some v := by
  intro j v hv
  obtain ⟨ad', e', _, hcell⟩ := h.2 hn
  rw [e] at e'
  injection e' with e'
  subst e'
  have := hcell (o + j) v (hc j v hv)
  rw [add_add]
  exact this

set_option maxHeartbeats 1000000 in
theorem awake15_any (w : World) : Calls Try.prog 5 #[] w fun e w' => e = .returned (.bool true) ∧ Below w.heap.size w w' := by
  have hb1 : Below w.heap.size w (w.alloc (.cells #[.int .i64 3, .int .i64 4, .int .i64 5] 3)) := (Below.refl _ w).alloc (Nat.le_refl _) _
  have hs1 : Sl (w.alloc (.cells #[.int .i64 3, .int .i64 4, .int .i64 5] 3)) (w.alloc (.cells #[.int .i64 3, .int .i64 4, .int .i64 5] 3)).heap.size (some ⟨w.heap.size, 0, none⟩) 3 (iz [3, 4, 5]) := by
    have := Sl.new w #[.int .i64 3, .int .i64 4, .int .i64 5] 3
    rw [alloc_size]
    exact this
  obtain ⟨W1, hW1⟩ : ∃ W, W = w.alloc (.cells #[.int .i64 3, .int .i64 4, .int .i64 5] 3) := ⟨_, rfl⟩
  rw [← hW1] at hb1 hs1
  have HW1 := Lib.hid hW1.symm
  clear hW1
  go_enter Try.func5, Try.ntmps5
  go_wp2_with fail
  rw [HW1.out]
  refine (srow_any 0 [3, 4, 5] W1 _ 3 3 hs1 (by decide) (by decide)).mono ?_
  rw [row_awake.1, row_awake.2]
  have l2 : ([(0, 3), (3, 4), (7, 5)] : List (Nat × Nat)).length = 3 := rfl
  rintro e w2 ⟨X, cx, rfl, y2, hb2⟩
  rw [l2] at y2 ⊢
  replace hb1 := next hb1 hb2
  clear hs1 hb2
  go_wp2_with fail
  have e26 : (Value.complex .f64 4611686018427387904 4618441417868443648) = cxv (2, 6) := by unfold cxv; rw [fi_2, fi_6]
  rw [e26]
  refine (spick_any [(0, 3), (3, 4), (7, 5)] (2, 6) w2 X 3 cx y2 (by decide) (by intro y hy; simp at hy; rcases hy with rfl | rfl | rfl <;> exact ⟨by decide, by decide⟩) ⟨by decide, by decide⟩).mono ?_
  rw [pick_awake.1, pick_awake.2]
  have l3 : ([(0, 2, 1), (1, 0, 4), (2, 0, 1)] : List (Nat × Nat × Nat)).length = 3 := rfl
  rintro e w3 ⟨Y, cy, rfl, z3, hb3⟩
  rw [l3] at z3 ⊢
  replace hb1 := next hb1 hb3
  have y3 := y2.nx hb3
  obtain ⟨ad, rfl, _, hc⟩ := y3.sl.2 (by decide)
  obtain ⟨bd, rfl, _, _⟩ := z3.2 (by decide)
  obtain ⟨ab, ao, av⟩ := ad
  obtain ⟨bb, bo, bv⟩ := bd
  have c2 : w3.cell? ⟨ab, ao + 2, none⟩ = some (.complex .f64 4619567317775286272 4617315517961601024) := by
    have h5 := hc 2 (cxv (7, 5)) rfl
    have e5 : (⟨ab, ao, av⟩ : Addr).add 2 = ⟨ab, ao + 2, none⟩ := rfl
    rw [← e5, h5]
    unfold cxv
    rw [fi_7, fi_5]
  have r0 := load_2 z3 rfl (by decide) 0 [.int .i64 0, .complex .f64 4611686018427387904 4607182418800017408] (by
    rw [← fi_2, ← fi_1]
    intro j v hv
    rw [Nat.zero_add]
    match j with
    | 0 => exact hv
    | 1 => exact hv
    | j + 2 => cases hv)
  have r4 := load_2 z3 rfl (by decide) 4 [.int .i64 2, .complex .f64 0 4607182418800017408] (by
    rw [← fi_1]
    intro j v hv
    match j with
    | 0 => exact hv
    | 1 => exact hv
    | j + 2 => cases hv)
  have o1 : (FloatKind.f64.format.order 4619567317775286272 4619567317775286272 == some Ordering.eq) = true := by kernel_rfl
  have o2 : (FloatKind.f64.format.order 4617315517961601024 4617315517961601024 == some Ordering.eq) = true := by kernel_rfl
  have s0 : ∀ w : World, (Op.equalIn 10000 42 (.agg #[.int .i64 0, .complex .f64 4611686018427387904 4607182418800017408]) (.agg #[.int .i64 0, .complex .f64 4611686018427387904 4607182418800017408])).run Try.prog w = .ok true w := fun _ => by kernel_rfl
  have s2 : ∀ w : World, (Op.equalIn 10000 42 (.agg #[.int .i64 2, .complex .f64 0 4607182418800017408]) (.agg #[.int .i64 2, .complex .f64 0 4607182418800017408])).run Try.prog w = .ok true w := fun _ => by kernel_rfl
  have r0' : ∀ j v, ([.int .i64 0, .complex .f64 4611686018427387904 4607182418800017408] : List Value)[j]? = some v → w3.cell? ((⟨bb, bo, bv⟩ : Addr).add j) = some v := r0
  have r4' : ∀ j v, ([.int .i64 2, .complex .f64 0 4607182418800017408] : List Value)[j]? = some v → w3.cell? ((⟨bb, bo + 4, none⟩ : Addr).add j) = some v := r4
  have R0 := Lib.hid r0'
  have R4 := Lib.hid r4'
  clear hc z3 y3 y2 hb3 r0 r4 r0' r4'
  go_wp2_with (first
    | (refine wpList_load_atG rfl 42 _ rfl ⟨bb, bo, bv⟩ rfl [.int .i64 0, .complex .f64 4611686018427387904 4607182418800017408] _ R0.out Try.underlying42 rfl size_part ?_)
    | (refine wpList_load_atG rfl 42 _ rfl ⟨bb, bo + 4, none⟩ rfl [.int .i64 2, .complex .f64 0 4607182418800017408] _ R4.out Try.underlying42 rfl size_part ?_)
    | (refine wpList_buildG rfl 42 _ rfl [.int .i64 0, .complex .f64 4611686018427387904 4607182418800017408] built_pt0 ?_)
    | (refine wpList_buildG rfl 42 _ rfl [.int .i64 2, .complex .f64 0 4607182418800017408] built_pt2 ?_)
    | fail)
  go_ret
  exact ⟨rfl, hb1⟩

end Go.Proofs.Ytfmbehjllkmfiaa
