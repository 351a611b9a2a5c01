/- Layer 10, nonce: the law's own awake. -/
import Derived.Test.YtigofelbnjjigaaNonC
namespace Go.Proofs.Ytigofelbnjjigaa
set_option maxRecDepth 100000
open Go Go.RowKit
set_option linter.unusedVariables false
set_option linter.unusedSimpArgs false

set_option maxHeartbeats 1000000 in
theorem awake10_any (w : World) : Calls Try.prog 12 #[] w fun e w' => e = .returned (.bool true) ∧ Below w.heap.size w w' := by
  have hE : takeE 1 5 2 = 0 := by decide
  have hC : takeC 1 5 2 = cnt 1 7 := by unfold takeC; rw [hE]; rfl
  have hL : takeL 1 5 2 = nls 1 5 2 := by unfold takeL; rw [hE]; rfl
  have h12 : ∀ (h : 1 < (nls 1 5 2).length), (nls 1 5 2)[1] = [0, 0, 0, 1, 0, 0, 0, 0, 0, 0, 0, 7] := fun h => by rw [nls_at]; decide
  have HE := Lib.hid hE
  have HC := Lib.hid hC
  have HL := Lib.hid hL
  have H12 : Hid (∀ (h : 1 < (nls 1 5 2).length), (nls 1 5 2)[1] = [0, 0, 0, 1, 0, 0, 0, 0, 0, 0, 0, 7]) := h12
  clear hE hC hL h12
  go_enter Try.func12, Try.ntmps12
  go_wp2_with (first
    | (go_at_call 8; fail)
    | fail)
  refine (ntake_any 1 5 2 w).mono ?_
  rintro r w1 ⟨v, rfl, ho, hb1⟩
  rw [HE.out, HC.out]
  rw [HL.out] at ho
  obtain ⟨A, c, rfl⟩ := ho.form
  obtain ⟨g, B, d, rfl, hc, hs, hd, _⟩ := ho.at_ (j := 1) (by rw [nls_len]; omega)
  rw [nls_len]
  rw [H12.out] at hc hs
  obtain ⟨ad, rfl, hal, hb3⟩ := hs.byte (j := 3) (by decide)
  obtain ⟨_, e2, _, hb11⟩ := hs.byte (j := 11) (by decide)
  injection e2 with e2
  subst e2
  have hgl := block_lt_of_cell hc
  obtain ⟨W, HW, hth, b0, hb0, hsz, hc0, hc1⟩ := put_cn2 w1 1 7 23
  replace hc := (hb0.cell (p := ⟨g, 1, none⟩) hgl).trans hc
  have k3 : W.cell? ⟨ad.block, ad.off + 3, none⟩ = some (.int .u8 1) := (hb0.cell (p := ad.add 3) (by rw [add_block]; exact hal)).trans hb3
  have k11 : W.cell? ⟨ad.block, ad.off + 11, none⟩ = some (.int .u8 7) := (hb0.cell (p := ad.add 11) (by rw [add_block]; exact hal)).trans hb11
  clear hb3 hb11
  have hbw := next hb1 hb0
  clear ho hs hd HE HC HL H12
  go_wp2_with (first
    | (refine wpList_alloc_zero rfl 23 rfl (cnt 0 0) zero_cn ?_)
    | (refine wpList_store_mid rfl 23 _ _ rfl _ _ (cnt 1 7).toArray rfl rfl hth size_cn (all_oneCell_toArray (cnt_one _ _)) ?_; rw [HW.out]))
  go_ret
  exact ⟨rfl, hbw⟩

end Go.Proofs.Ytigofelbnjjigaa
