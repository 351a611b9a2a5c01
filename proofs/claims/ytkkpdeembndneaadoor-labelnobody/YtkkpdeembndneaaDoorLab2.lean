/- The walk of the law LabelNobody. -/
import Derived.Test.YtkkpdeembndneaaDoorLabX
import Derived.Deep.RegionHeld3
namespace Go.Proofs.YtkkpdeembndneaaDoor
set_option maxRecDepth 100000
open Go.RowKit
set_option linter.unusedVariables false
set_option linter.unusedSimpArgs false

set_option maxHeartbeats 4000000 in
theorem labelNobody_walk (v : Value) (w : World) (hT : Tabs w) (h : DoIn w v) :
    Calls Tryd.prog 6 #[v] w fun e w' => e = .returned (.bool true) ∧ Below w.heap.size w w' := by
  obtain ⟨_, _, _, _, ⟨ask, e, l, p⟩, rfl, rfl, rfl, hwf, ⟨A, n, c, rfl, hs, hnc, hA, hroom⟩, rfl, hp⟩ := h
  simp only at hwf hs hp
  have hp' : p.length ≤ 9223372036854775807 := by unfold maxLen at hp; omega
  have hb0 : Below w.heap.size w (w.alloc (.cells #[.bool ask, .int .i64 e, .slice A n c, .string ⟨p.toArray⟩] 41)) := (Below.refl _ w).alloc (Nat.le_refl _) _
  have b0 := Bl.newA w #[.bool ask, .int .i64 e, .slice A n c, .string ⟨p.toArray⟩] 41
  obtain ⟨W0, hW0⟩ : ∃ W, W = w.alloc (.cells #[.bool ask, .int .i64 e, .slice A n c, .string ⟨p.toArray⟩] 41) := ⟨_, rfl⟩
  rw [← hW0] at hb0 b0
  have HW0 : Hid (w.alloc (.cells #[.bool ask, .int .i64 e, .slice A n c, .string ⟨p.toArray⟩] 41) = W0) := hW0.symm
  have c1 : W0.cell? ⟨w.heap.size, 1, none⟩ = some (.int .i64 e) := b0.cell 1
  have c2 : W0.cell? ⟨w.heap.size, 2, none⟩ = some (.slice A n c) := b0.cell 2
  have c3 : W0.cell? ⟨w.heap.size, 3, none⟩ = some (.string ⟨p.toArray⟩) := b0.cell 3
  have hs0 := hs.nx hb0
  have HK := Lib.hid (lrkey_nil p e W0)
  have HRR := Lib.hid (rright_any p e W0 hp')
  have HT := Lib.hid (hT.next hb0)
  have HB0 := Lib.hid b0
  have HRM := Lib.hid hroom
  obtain ⟨f, hf⟩ : ∃ f, f = (purp p && epo e) := ⟨_, rfl⟩
  obtain ⟨E, hE⟩ : ∃ R, R = rkeyE [] p e := ⟨_, rfl⟩
  have HE : Hid (rkeyE [] p e = E) := hE.symm
  rw [← hf] at HRR
  have hE2 : (f = true ∧ E = 24) ∨ (f = false ∧ E = 1) := by
    rw [hE]
    unfold rkeyE
    rw [← hf]
    cases f with
    | true => exact .inl ⟨rfl, rfl⟩
    | false => exact .inr ⟨rfl, rfl⟩
  clear hW0 hs hT hp hp' hf hE b0 hroom
  have keepS : Hid (∀ w', Below W0.heap.size W0 w' → w'.cell? ⟨w.heap.size, 1, none⟩ = some (.int .i64 e) ∧ w'.cell? ⟨w.heap.size, 2, none⟩ = some (.slice A n c)) := fun w' hb => ⟨(HB0.out.next hb).cell 1, (HB0.out.next hb).cell 2⟩
  go_enter Tryd.func6, Tryd.ntmps6
  rcases hE2 with ⟨rfl, rfl⟩ | ⟨rfl, rfl⟩
  all_goals
    go_wp2_with (first
      | (rw [HW0.out])
      | (go_at_call 14; refine HK.out.mono ?_; rintro r w1 ⟨rfl, rfl⟩; rw [HE.out])
      | (go_at_call 24; refine HRR.out.mono ?_; rintro r w1 ⟨rfl, rfl⟩))
    go_region_held3 (fun w' => w'.cell? ⟨w.heap.size, 1, none⟩ = some (.int .i64 e) ∧ w'.cell? ⟨w.heap.size, 2, none⟩ = some (.slice A n c))
      (first | exact keepS.out _ (by first | assumption | exact (Below.refl _ W0).drew))
      (first
        | (go_at_call 7; refine (own_any l _ W0.heap.size A n c (hs0.below (Below.refl _ W0).drew) hA (by have := HRM.out; omega) (Nat.le_refl _)).mono ?_; rintro r w1 ⟨A3, c3, rfl, x3⟩; have b1 := next (Below.refl _ W0).drew x3.below)
        | (go_at_call 16; refine (lput_nil e _ _ _ _).mono ?_; rintro r w2 ⟨rfl, rfl⟩)
        | (go_at_call 18; refine (lepochs_nil _).mono ?_; rintro r w2 ⟨rfl, rfl⟩)
        | (go_at_call 22; refine (lmaster_nil e _).mono ?_; rintro r w2 ⟨rfl, rfl⟩)
        | (go_at_call 20; refine (llast_nil _).mono ?_; rintro r w2 ⟨rfl, rfl⟩)
        | (go_at_call 10; refine (awake9_any _ (HT.out.next b1)).mono ?_; rintro r w7 ⟨rfl, h7⟩; have b7 := next b1 h7))
    go_wp2
    go_ret
    exact ⟨rfl, next hb0 b7⟩

end Go.Proofs.YtkkpdeembndneaaDoor
