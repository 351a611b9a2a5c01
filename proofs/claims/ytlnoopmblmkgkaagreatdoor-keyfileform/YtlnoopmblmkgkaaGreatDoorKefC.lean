/- Layer 11, keyfile: Get. -/
import Derived.Test.YtlnoopmblmkgkaaGreatDoorKefB
namespace Go.Proofs.YtlnoopmblmkgkaaGreatDoor
set_option maxRecDepth 100000
open Go Go.RowKit
set_option linter.unusedVariables false
set_option linter.unusedSimpArgs false

theorem exec_lh {P : Program} {a : Act} {o : Oper} (w : World) (t e : TypeId) (x lo hi : Operand) (ho : o.op = .slice t x (some lo) (some hi) none) (ht : P.underlying t = some (.slice e)) (he : (P.info? e).map (·.size) = some 1) (A : Option Addr) (n c l h : Nat) (kl kh : IntKind) (L H : Int)
    (hx : a.eval x = .slice A n c) (hlo : a.eval lo = .int kl L) (hhi : a.eval hi = .int kh H) (eL : L = l) (eH : H = h) (h1 : l ≤ h) (h2 : h ≤ c) (hA : A = none → c = 0) (A' : Option Addr) (hA' : A' = if c = l then A else A.map (·.add l)) :
    (execOp a.eval o).run P w = .ok (.value (.slice A' (h - l) (c - l))) w := by
  have hr := run_slice_lh (P := P) w t e ht he A n c l h kl kh L H eL eH h1 h2 hA
  unfold execOp
  simp only [ho, Option.map_some, Option.map_none, hx, hlo, hhi, Instr.sliceAt, Sem.run_bind, run_underlying ht, Result.andThen_ok, hr, ← hA']
  rfl

def gtF (b : List UInt8) : FV := if gtE b = 0 then ⟨gSalt b, gR b, gNu b, gBox b⟩ else nilV
theorem gtF_no {b : List UInt8} (h : gtE b ≠ 0) : gtF b = nilV := by unfold gtF; rw [if_neg h]

set_option maxHeartbeats 1000000 in
theorem get_any (b : List UInt8) (w : World) (A : Option Addr) (n c : Nat) (h : Sl w w.heap.size A n (cb b)) (hc : n ≤ c) (hA : A = none → c = 0) (hm : n ≤ 140737488351232) :
    Calls Tryz.prog 26 #[.slice A n c] w (RetFile w (gtF b) (gtE b)) := by
  have hn : n = b.length := by rw [← h.1, cb_len]
  obtain ⟨W, HW, b0, hb0, hsz⟩ := put_f w nilF 35
  have hsize := size_any b W A n c (h.nx hb0) hc hA (by omega)
  by_cases hE : szE b = 0
  · obtain ⟨h33, hg, hs, _, eN⟩ : 33 ≤ b.length ∧ gHead b = true ∧ ¬ b.length < 33 + gN b ∧ szE b = 0 ∧ szN b = 33 + gN b := by
      rcases sz_ways b with ⟨_, h, _⟩ | ⟨_, _, h, _⟩ | ⟨_, _, _, h, _⟩ | h
      · rw [hE] at h; cases h
      · rw [hE] at h; cases h
      · rw [hE] at h; cases h
      · exact h
    obtain ⟨u, hu⟩ : ∃ u, u = gN b := ⟨_, rfl⟩
    rw [eN, hE, ← hu] at hsize
    rw [← hu] at hs
    have HS := Lib.hid hsize
    by_cases hl : 33 + u < n
    · have e4 : gtE b = 4 := by unfold gtE; rw [if_pos hE, if_pos (by rw [← hu]; omega)]
      rw [gtF_no (by rw [e4]; decide), e4]
      have hq : 33 + (u : Int) < (n : Int) := by omega
      clear hn hsize hE h33 hg hs eN hu hl h hsz e4
      go_enter Tryz.func26, Tryz.ntmps26
      go_wp2_with (first
        | (refine wpList_alloc_zero rfl 35 rfl nilF zero_kf ?_; rw [HW.out])
        | (go_at_call 24; refine HS.out.mono ?_; rintro e w1 ⟨rfl, hd1⟩; have b1 := b0.next (hd1.below W.heap.size); have hb1 := next hb0 (hd1.below W.heap.size))
        | (refine wpList_build_to rfl 35 _ rfl nilF built_kf0 ?_)
        | (refine wpList_store_mid rfl 35 _ _ rfl _ _ nilF.toArray rfl rfl (b1.there_ (by simp [nilF, fC])) size_kf (all_oneCell_toArray nilF_one) ?_)
        | fail)
      exact ret_row_tmp Tryz.results26 rfl (b1.over (vs := nilF) rfl) Tryz.underlying35 rfl size_kf rfl (retFile_nil rfl (below_setCells hb1 (Nat.le_refl _) _ _))
    · have e0 : gtE b = 0 := by unfold gtE; rw [if_pos hE, if_neg (by rw [← hu]; omega)]
      obtain ⟨hp1, hp2, hp3, hp4⟩ := read_put e0
      have hnu : IntKind.i64.wrap (gNu b : Int) = (gNu b : Int) := kfit_nu hp2
      rw [hp3, hp4, ← hu] at hp2
      have hu49 := ((kfit_iff _ _ _ _).1 hp2).1
      have hF : gtF b = ⟨gSalt b, gR b, gNu b, gBox b⟩ := by unfold gtF; rw [if_pos e0]
      rw [hF, e0]
      have hq : ¬ 33 + (u : Int) < (n : Int) := by omega
      have s1 := sl_mid (l := 1) (h := 17) h (by omega) (by omega) hc
      rw [show 17 - 1 = 16 from rfl, cb_mid] at s1
      have s2 := sl_cut (k := 33) h (by omega) hc
      rw [show (cb b).drop 33 = cb (gBox b) by unfold gBox; simp [cb]] at s2
      obtain ⟨P1, hP1⟩ : ∃ P, P = if c = 1 then A else A.map (·.add 1) := ⟨_, rfl⟩
      obtain ⟨P2, hP2⟩ : ∃ P, P = if c = 33 then A else A.map (·.add 33) := ⟨_, rfl⟩
      rw [← hP1] at s1
      rw [← hP2] at s2
      have hn33 : 33 ≤ n := by omega
      have z1 : P1 = none → c - 1 = 0 := by intro e; subst hP1; rw [if_neg (by omega)] at e; cases A with | none => have := hA rfl; omega | some a => cases e
      have z2 : P2 = none → c - 33 = 0 := by intro e; subst hP2; rw [if_neg (by omega)] at e; cases A with | none => have := hA rfl; omega | some a => cases e
      have hnum := fun v hv => numbers_any b v A n c hv hc hA hn33
      obtain ⟨x, hx⟩ : ∃ x, x = gR b := ⟨_, rfl⟩
      obtain ⟨y, hy⟩ : ∃ y, y = gNu b := ⟨_, rfl⟩
      rw [hnu, ← hx, ← hy, ← hu] at hnum
      rw [← hx, ← hy]
      have HN := Lib.hid hnum
      have H1 := Lib.hid hP1
      have H2 := Lib.hid hP2
      have HX : Hid (n - 33 = (gBox b).length) := by unfold Hid gBox; rw [List.length_drop]; omega
      have HSL : Hid (16 = (gSalt b).length) := hp3.symm
      clear hn hsize hE h33 hg hs eN hu hl hsz e0 hp1 hp2 hp3 hp4 hu49 hF hx hy hP1 hP2 hnum hnu
      go_enter Tryz.func26, Tryz.ntmps26
      go_wp2_with (first
        | (refine wpList_alloc_zero rfl 35 rfl nilF zero_kf ?_; rw [HW.out])
        | (go_at_call 24; refine HS.out.mono ?_; rintro e w1 ⟨rfl, hd1⟩; have hb1 := next hb0 (hd1.below W.heap.size))
        | (go_at_call 53; refine (HN.out w1 (h.nx hb1)).mono ?_; rintro e w2 ⟨rfl, hd2⟩)
        | fail)
      have hD := hd1.trans hd2
      obtain ⟨W2, hW2⟩ : ∃ W, W = w2.drew := ⟨_, rfl⟩
      have hd3 : Drew W W2 := by rw [hW2]; exact hD.more 1
      have b2 := b0.next (hd3.below W.heap.size)
      have hb2 := next hb0 (hd3.below W.heap.size)
      refine wp_region_any (by kernel_rfl) ?_
      change wpAny _ _ _ _ _ _ _ (World.drew _)
      rw [← hW2]
      clear hW2 hd1 hd2 hD hd3 hb0 b0 hb1
      refine wpAny_take (i := 0) (v := (.slice A n c)) rfl (by kernel_rfl) (by kernel_rfl) (by kernel_rfl) (fun _ _ _ h => h) (Or.inl ⟨by rfl, fun _ => by go_simp⟩) ?_
      simp only [List.getElem_toArray, List.getElem_cons_succ, List.getElem_cons_zero, Act.put, List.setIfInBounds_toArray, List.set_cons_zero, List.set_cons_succ]
      refine wpAny_take (i := 1) (v := .slice P1 (17 - 1) (c - 1)) rfl (by kernel_rfl) (by kernel_rfl) (by kernel_rfl) (fun _ _ _ h => h) (Or.inl ⟨by rfl, fun w9 => exec_lh w9 22 5 _ _ _ rfl Tryz.underlying22 u8_size A n c 1 17 .i64 .i64 1 17 rfl rfl rfl rfl rfl (by decide) (by omega) hA P1 H1.out⟩) ?_
      simp only [List.getElem_toArray, List.getElem_cons_succ, List.getElem_cons_zero, Act.put, List.setIfInBounds_toArray, List.set_cons_zero, List.set_cons_succ]
      refine wpAny_take (i := 3) (v := (.int .i64 (x : Int))) rfl (by kernel_rfl) (by kernel_rfl) (by kernel_rfl) (fun _ _ _ h => h) (Or.inl ⟨by rfl, fun _ => by go_simp⟩) ?_
      simp only [List.getElem_toArray, List.getElem_cons_succ, List.getElem_cons_zero, Act.put, List.setIfInBounds_toArray, List.set_cons_zero, List.set_cons_succ]
      refine wpAny_take (i := 4) (v := (.int .i64 (y : Int))) rfl (by kernel_rfl) (by kernel_rfl) (by kernel_rfl) (fun _ _ _ h => h) (Or.inl ⟨by rfl, fun _ => by go_simp⟩) ?_
      simp only [List.getElem_toArray, List.getElem_cons_succ, List.getElem_cons_zero, Act.put, List.setIfInBounds_toArray, List.set_cons_zero, List.set_cons_succ]
      refine wpAny_take (i := 5) (v := (.slice A n c)) rfl (by kernel_rfl) (by kernel_rfl) (by kernel_rfl) (fun _ _ _ h => h) (Or.inl ⟨by rfl, fun _ => by go_simp⟩) ?_
      simp only [List.getElem_toArray, List.getElem_cons_succ, List.getElem_cons_zero, Act.put, List.setIfInBounds_toArray, List.set_cons_zero, List.set_cons_succ]
      refine wpAny_take (i := 6) (v := .slice P2 (n - 33) (c - 33)) rfl (by kernel_rfl) (by kernel_rfl) (by kernel_rfl) (fun _ _ _ h => h) (Or.inl ⟨by rfl, fun w9 => exec_slice_from w9 22 5 _ _ rfl Tryz.underlying22 u8_size A n c 33 .i64 33 rfl rfl rfl hn33 hc hA P2 H2.out⟩) ?_
      simp only [List.getElem_toArray, List.getElem_cons_succ, List.getElem_cons_zero, Act.put, List.setIfInBounds_toArray, List.set_cons_zero, List.set_cons_succ]
      refine wpAny_one (i := 2) (by kernel_rfl) rfl (by rfl) (fun K hK => ?_)
      simp only [List.getElem_toArray, List.getElem_cons_succ, List.getElem_cons_zero, Act.put, List.setIfInBounds_toArray, List.set_cons_zero, List.set_cons_succ]
      go_simp
      refine (clone_any (gSalt b) W2 W2.heap.size P1 16 (c - 1) (s1.nx hb2) (by omega) z1 (by decide) (Nat.le_refl _)).mono ?_
      rintro e w3 ⟨X3, d3, rfl, x3⟩
      have b3 := b2.next x3.below
      have hb3 := next hb2 x3.below
      have o3 : Off w.heap.size 16 X3 := own_off x3.own b2.lt
      refine hK.out _ _ ?_
      clear hK K b2
      refine wpAny_one (i := 7) (by kernel_rfl) rfl (by rfl) (fun K hK => ?_)
      simp only [List.getElem_toArray, List.getElem_cons_succ, List.getElem_cons_zero, Act.put, List.setIfInBounds_toArray, List.set_cons_zero, List.set_cons_succ]
      go_simp
      refine (clone_any (gBox b) w3 w3.heap.size P2 (n - 33) (c - 33) (s2.nx hb3) (by omega) z2 (by omega) (Nat.le_refl _)).mono ?_
      rintro e w4 ⟨X4, d4, rfl, x4⟩
      have b4 := b3.next x4.below
      have hb4 := next hb3 x4.below
      have o4 : Off w.heap.size (n - 33) X4 := own_off x4.own b3.lt
      refine hK.out _ _ ?_
      clear hK K b3
      obtain ⟨C, hC⟩ : ∃ C, C = fC X3 16 d3 x y X4 (n - 33) d4 := ⟨_, rfl⟩
      have HBU := Lib.hid (built_kf X3 16 d3 x y X4 (n - 33) d4)
      have HC1 : Hid (∀ v ∈ C, v.oneCell' = true) := by unfold Hid; rw [hC]; exact fC_one _ _ _ _ _ _ _ _
      have HCL : Hid (C.length = 4) := by unfold Hid; rw [hC]; rfl
      rw [← hC] at HBU
      have HC := Lib.hid hC
      clear hC
      refine wpAny_take (i := 8) (v := .agg C.toArray) rfl (by kernel_rfl) (by kernel_rfl) (by kernel_rfl) (fun _ _ _ h => h) (Or.inl ⟨by rfl, fun w' => exec_build 35 _ rfl C HBU.out w'⟩) ?_
      simp only [List.getElem_toArray, List.getElem_cons_succ, List.getElem_cons_zero, Act.put, List.setIfInBounds_toArray, List.set_cons_zero, List.set_cons_succ]
      refine wpAny_one (i := 9) (by kernel_rfl) rfl (by rfl) (fun K hK => ?_)
      simp only [List.getElem_toArray, List.getElem_cons_succ, List.getElem_cons_zero, Act.put, List.setIfInBounds_toArray, List.set_cons_zero, List.set_cons_succ]
      refine wp_store_mid 35 _ _ rfl _ _ C.toArray rfl rfl (b4.there_ (by simp [nilF, fC, HCL.out])) (by rw [size_kf, List.size_toArray, HCL.out]) (all_oneCell_toArray HC1.out) ?_
      have hfin := b4.over (vs := C) (by rw [HCL.out]; rfl)
      have hbf := below_setCells hb4 (Nat.le_refl _) 0 C
      have hF : Hid (Fil (w4.setCells w.heap.size 0 C) X3 16 d3 (gSalt b) X4 (n - 33) d4 (gBox b)) := by
        unfold Hid
        have y3 : By w4 X3 16 d3 (gSalt b) := x3.bys.nx x4.below
        have y4 : By w4 X4 (n - 33) d4 (gBox b) := x4.bys
        exact ⟨y3.nb (but_setCells (but_refl w4 _) 0 C) o3, y4.nb (but_setCells (but_refl w4 _) 0 C) o4⟩
      refine hK.out _ _ ?_
      clear hK K
      simp only [List.getElem_toArray, List.getElem_cons_succ, List.getElem_cons_zero, Act.put, List.setIfInBounds_toArray, List.set_cons_zero, List.set_cons_succ]
      refine wpAny_take (i := 10) (v := (.int .i64 0)) rfl (by kernel_rfl) (by kernel_rfl) (by kernel_rfl) (fun _ _ _ h => h) (Or.inl ⟨by rfl, fun _ => by go_simp⟩) ?_
      simp only [List.getElem_toArray, List.getElem_cons_succ, List.getElem_cons_zero, Act.put, List.setIfInBounds_toArray, List.set_cons_zero, List.set_cons_succ]
      refine wpAny_done (by kernel_rfl) ?_ _
      go_wp2
      exact ret_row_tmp Tryz.results26 rfl hfin Tryz.underlying35 rfl (by rw [size_kf, HCL.out]) rfl ⟨X3, 16, d3, X4, n - 33, d4, by rw [HC.out]; rfl, hF.out, hbf⟩
  · have e4 : gtE b = szE b := by unfold gtE; rw [if_neg hE]
    rw [gtF_no (by rw [e4]; exact hE), e4]
    obtain ⟨E, hEe⟩ : ∃ E, E = szE b := ⟨_, rfl⟩
    rw [← hEe] at hE hsize ⊢
    have hq : (E != 0) = true := by simpa using hE
    have HS := Lib.hid hsize
    clear hn hsize hE h hsz e4 hEe
    go_enter Tryz.func26, Tryz.ntmps26
    go_wp2_with (first
      | (refine wpList_alloc_zero rfl 35 rfl nilF zero_kf ?_; rw [HW.out])
      | (go_at_call 24; refine HS.out.mono ?_; rintro e w1 ⟨rfl, hd1⟩; have b1 := b0.next (hd1.below W.heap.size); have hb1 := next hb0 (hd1.below W.heap.size))
      | (refine wpList_build_to rfl 35 _ rfl nilF built_kf0 ?_)
      | (refine wpList_store_mid rfl 35 _ _ rfl _ _ nilF.toArray rfl rfl (b1.there_ (by simp [nilF, fC])) size_kf (all_oneCell_toArray nilF_one) ?_)
      | fail)
    exact ret_row_tmp Tryz.results26 rfl (b1.over (vs := nilF) rfl) Tryz.underlying35 rfl size_kf rfl (retFile_nil rfl (below_setCells hb1 (Nat.le_refl _) _ _))

end Go.Proofs.YtlnoopmblmkgkaaGreatDoor
