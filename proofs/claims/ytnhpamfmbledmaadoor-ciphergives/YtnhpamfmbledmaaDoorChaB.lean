/- afterRounds of package cipher. -/
import Derived.Test.YtnhpamfmbledmaaDoorChaA
namespace Go.Proofs.YtnhpamfmbledmaaDoor
open Go.RowKit
set_option linter.unusedVariables false
set_option linter.unusedSimpArgs false

/-- 'x[i]' of an array that is a value, its elements arrays. -/
theorem run_index_row {P : Program} (w : World) (t e e' : TypeId) (n m : Nat) (ki : IntKind) (ht : P.underlying t = some (.array n e)) (he : P.underlying e = some (.array m e')) (hs : (P.info? e).map (·.size) = some m) (cs : List Value) (i : Int) (j : Nat) (ei : i = j) (hj : j < n) :
    (Instr.index t (.agg cs.toArray) (.int ki i)).run P w = .ok (.agg ((cs.drop (j * m)).take m).toArray) w := by
  subst ei
  cases hq : P.info? e with
  | none => simp [hq] at hs
  | some ii =>
    have hsz : ii.size = m := by simpa [hq] using hs
    have hagg : (isAgg e).run P w = .ok true w := by
      unfold isAgg
      rw [Sem.run_bind, run_underlying he w]
      rfl
    simp [Instr.index, asIntOf, run_underlying ht, hj, part, hagg, sizeOf, typeInfo, hq, hsz, List.extract_toArray, List.extract_eq_take_drop]

/-- The table's cells. -/
def qcell (q : Q4) : List Value := [.int .i64 (q.a : Int), .int .i64 (q.b : Int), .int .i64 (q.c : Int), .int .i64 (q.d : Int)]
def qcs : List Value := quar.flatMap qcell
theorem qcs_part (k : Nat) (h : k < 8) : (qcs.drop (k * 4)).take 4 = qcell (quarAt k) := by
  rcases (show k = 0 ∨ k = 1 ∨ k = 2 ∨ k = 3 ∨ k = 4 ∨ k = 5 ∨ k = 6 ∨ k = 7 by omega) with rfl | rfl | rfl | rfl | rfl | rfl | rfl | rfl <;> rfl

/-- The package's table holds what its text lays. -/
def TabC (w : World) : Prop := w.rangeAt 0 0 qcs

theorem TabC.size {w : World} (h : TabC w) : 0 < w.heap.size := by
  have h1 := block_lt_of_cell (h 0 _ rfl)
  simpa using h1

theorem TabC.keep {w w' : World} (h : TabC w) (hk : w'.heap[0]? = w.heap[0]?) : TabC w' := fun j v hv => by
  rw [World.cell?_of_block (w := w) hk]
  exact h j v hv

theorem TabC.next {w w' : World} (h : TabC w) (hb : Below w.heap.size w w') : TabC w' := h.keep (hb.block _ h.size)
theorem TabC.alloc {w : World} (h : TabC w) (o : Obj) : TabC (w.alloc o) := h.keep (Below.heap_alloc w o _ h.size)
theorem TabC.drewN {w : World} (h : TabC w) (n : Nat) : TabC (w.drewN n) := h.keep rfl
theorem TabC.sets {w : World} (h : TabC w) (g o : Nat) (vs : List Value) (hg : w.heap.size ≤ g ∨ 0 ≠ g) : TabC (w.setCells g o vs) := h.keep (heap_setCells_other _ _ (by have := h.size; omega) _ _ _)
theorem TabC.set {w : World} (h : TabC w) (g o : Nat) (v : Value) (hg : 0 ≠ g) : TabC (w.setCell ⟨g, o, none⟩ v) := h.keep (heap_setCell_other _ _ _ _ hg)

theorem zero_16 : (Tryd.prog.info? 47).map (·.zero) = some (some (.agg (zeros .u32 16).toArray)) := by kernel_rfl
theorem size_16 : (Tryd.prog.info? 47).map (·.size) = some 16 := by kernel_rfl
theorem zero_q : (Tryd.prog.info? 61).map (·.zero) = some (some (.agg (zeros .i64 4).toArray)) := by kernel_rfl
theorem size_q : (Tryd.prog.info? 61).map (·.size) = some 4 := by kernel_rfl
theorem size_qs : (Tryd.prog.info? 62).map (·.size) = some 32 := by kernel_rfl
theorem qcs_len : qcs.length = 32 := rfl
theorem qcell_one (q : Q4) : ∀ v ∈ qcell q, v.oneCell' = true := by intro v hv; simp [qcell] at hv; rcases hv with rfl | rfl | rfl | rfl <;> rfl

theorem us_put4 (x : List Nat) (q r : Q4) : ((((us x).set q.a (.int .u32 (r.a : Int))).set q.b (.int .u32 (r.b : Int))).set q.c (.int .u32 (r.c : Int))).set q.d (.int .u32 (r.d : Int)) = us (put4 x q r) := by
  simp [us, put4, List.map_set, uc]

set_option maxRecDepth 100000 in
set_option maxHeartbeats 2000000 in
theorem cafter_any (x : List Nat) (w : World) (hx : x.length = 16) (hW : Wds x) (hT : TabC w) :
    Calls Tryd.prog 27 #[.agg (us x).toArray] w fun e w' => e = .returned (.agg (us (rds x 10)).toArray) ∧ Below w.heap.size w w' := by
  have HX := Lib.hid hx
  have HWD := Lib.hid hW
  have HT := Lib.hid hT
  have hts := hT.size
  clear hx hW hT
  obtain ⟨R, hR⟩ : ∃ R, R = rds x 10 := ⟨_, rfl⟩
  rw [← hR]
  have HRR := Lib.hid hR
  clear hR
  obtain ⟨gx, hgx⟩ : ∃ g, g = w.heap.size := ⟨_, rfl⟩
  have HGX := Lib.hid hgx
  have hgt : 0 < gx := by rw [hgx]; exact hts
  go_enter Tryd.func27, Tryd.ntmps27
  go_wp2
  refine wp_scope_back 0 (fun a' w' => ∃ (m : Nat) (u4 u5 u6 u7 u8 u9 u10 u11 u12 u13 u14 u15 u16 u17 u18 u19 u20 u21 u22 u23 u24 u25 u26 u27 u28 u29 u30 u31 u32 u33 u34 u35 u36 u37 u38 u39 u40 u41 u42 u43 u44 u45 u46 u47 u48 u49 u50 u51 u52 u53 : Value), a' = { tmps := #[.agg (us x).toArray, .pointer (some ⟨gx, 0, none⟩), .pointer (some ⟨gx + 1, 0, none⟩), .int .i64 (m : Int), u4, u5, u6, u7, u8, u9, u10, u11, u12, u13, u14, u15, u16, u17, u18, u19, u20, u21, u22, u23, u24, u25, u26, u27, u28, u29, u30, u31, u32, u33, u34, u35, u36, u37, u38, u39, u40, u41, u42, u43, u44, u45, u46, u47, u48, u49, u50, u51, u52, u53], defers := [] } ∧ 1 ≤ m ∧ m ≤ 10 ∧
    Bl w' gx (us (rds x (10 - m))) 47 ∧ Bl w' (gx + 1) (zeros .u32 16) 47 ∧ TabC w' ∧ Below w.heap.size w w') (fun a' _ => (intOf (a'.tmps.getD 3 undef)).toNat) rfl ?first ?pass
  case first =>
    intro hgo
    go_wp2_with (refine wpList_alloc_zero rfl 47 rfl (zeros .u32 16) zero_16 ?_)
    go_step3
    rename_i hKK
    refine hKK _ _ (hgo _ _ ?_)
    rw [← hgx]
    have b1 : Bl ((w.alloc (.cells (us x).toArray 47)).alloc (.cells (zeros .u32 16).toArray 47)) (gx + 1) (zeros .u32 16) 47 := by
      have := Bl.new (w.alloc (.cells (us x).toArray 47)) (zeros .u32 16) 47
      rw [alloc_size, ← hgx] at this
      exact this
    refine ⟨10, _, _, _, _, _, _, _, _, _, _, _, _, _, _, _, _, _, _, _, _, _, _, _, _, _, _, _, _, _, _, _, _, _, _, _, _, _, _, _, _, _, _, _, _, _, _, _, _, _, _, rfl, by omega, by omega, ?_, b1, (HT.out.alloc _).alloc _, by rw [hgx]; exact ((Below.refl _ w).alloc (Nat.le_refl _) _).alloc (by simp) _⟩
    rw [hgx]
    exact (Bl.new w (us x) 47).alloc _
  case pass =>
    rintro a' w' ⟨m, u4, u5, u6, u7, u8, u9, u10, u11, u12, u13, u14, u15, u16, u17, u18, u19, u20, u21, u22, u23, u24, u25, u26, u27, u28, u29, u30, u31, u32, u33, u34, u35, u36, u37, u38, u39, u40, u41, u42, u43, u44, u45, u46, u47, u48, u49, u50, u51, u52, u53, rfl, hm1, hm2, bx, br, hT, hb⟩
    obtain ⟨X, hXd⟩ : ∃ X, X = rds x (10 - m) := ⟨_, rfl⟩
    rw [← hXd] at bx
    have HXL : Hid (X.length = 16) := by unfold Hid; rw [hXd, rds_len, HX.out]
    have HXW : Hid (Wds X) := by unfold Hid; rw [hXd]; exact rds_ok HWD.out _
    have HXD := Lib.hid hXd
    have hsz := hb.size
    rw [← hgx] at hsz
    clear hXd hgx
    go_wp2_with (refine wpList_load_mid rfl 62 _ rfl _ _ rfl qcs _ hT Tryd.underlying62 rfl size_qs ?_)
    go_loopw [11] (fun i wr => ∃ k : Nat, k ≤ 8 ∧ i = .int .i64 k ∧ Bl wr gx (us (quTo X k)) 47 ∧ Bl wr (gx + 1) (zeros .u32 16) 47 ∧ TabC wr ∧ Below w.heap.size w wr) (fun i _ => 8 - (intOf i).toNat)
    case atStart => exact ⟨0, by omega, rfl, bx, br, hT, hb⟩
    case round =>
      clear bx br hT hb
      obtain ⟨k, hk, rfl, bx, br, hT, hb⟩ := hrel
      have hbz := hb.size
      rw [← HGX.out] at hbz
      by_cases hlt : k < 8
      · obtain ⟨q, hq⟩ : ∃ q, q = quarAt k := ⟨_, rfl⟩
        have hap := quar_apart k hlt
        rw [← hq] at hap
        have HP : Hid ((qcs.drop (k * 4)).take 4 = qcell q) := by unfold Hid; rw [hq]; exact qcs_part k hlt
        have HQ := Lib.hid hq
        clear hq
        go_wp2_with fail
        rw [run_index_row wr 62 61 3 8 4 .i64 Tryd.underlying62 Tryd.underlying61 size_q qcs _ k rfl hlt, HP.out]
        obtain ⟨bq, hb2, hz2⟩ := put_new wr (zeros .i64 4) (qcell q) 61 rfl
        obtain ⟨W2, hW2⟩ : ∃ W, W = (wr.alloc (.cells (zeros .i64 4).toArray 61)).setCells wr.heap.size 0 (qcell q) := ⟨_, rfl⟩
        rw [← hW2] at bq hb2 hz2
        have HW2 := Lib.hid hW2
        have bx2 := bx.next hb2
        have br2 := br.next hb2
        have hT2 := hT.next hb2
        have hbw2 := next hb hb2
        clear hW2 hz2 bx br hT hb hb2
        have x0 : W2.cell? ⟨wr.heap.size, 0, none⟩ = some (.int .i64 (q.a : Int)) := bq.cell 0
        have x1 : W2.cell? ⟨wr.heap.size, 1, none⟩ = some (.int .i64 (q.b : Int)) := bq.cell 1
        have x2 : W2.cell? ⟨wr.heap.size, 2, none⟩ = some (.int .i64 (q.c : Int)) := bq.cell 2
        have x3 : W2.cell? ⟨wr.heap.size, 3, none⟩ = some (.int .i64 (q.d : Int)) := bq.cell 3
        go_wp2_with (first
          | (refine wpList_alloc_zero rfl 61 rfl (zeros .i64 4) zero_q ?_)
          | (refine wpList_store_mid rfl 61 _ _ rfl _ _ (qcell q).toArray rfl rfl (Bl.there_ (Bl.new wr (zeros .i64 4) 61) (by simp [zeros, qcell])) (by rw [size_q]; rfl) (all_oneCell_toArray (qcell_one _)) ?_; change wpList _ _ _ _ _ (World.setCells (wr.alloc (.cells (zeros .i64 4).toArray 61)) wr.heap.size 0 (qcell q)); rw [← HW2.out]))
        go_quiet (fail)
        clear x0 x1 x2 x3 bq HW2
        go_wp2_with fail
        obtain ⟨W3, hW3⟩ : ∃ W, W = W2.drewN nq := ⟨_, rfl⟩
        rw [← hW3]
        have bx3 := bx2.drewN nq
        have br3 := br2.drewN nq
        have hT3 := hT2.drewN nq
        have hbw3 : Below w.heap.size w (W2.drewN nq) := hbw2.trans (Drew.below ⟨_, rfl⟩ _)
        rw [← hW3] at bx3 br3 hT3 hbw3
        clear hW3 bx2 br2 hT2 hbw2
        obtain ⟨W4, hW4⟩ : ∃ W, W = W3.drew := ⟨_, rfl⟩
        have bx4 := bx3.drew
        have br4 := br3.drew
        have hT4 : TabC W3.drew := hT3.keep rfl
        have hbw4 : Below w.heap.size w W3.drew := hbw3.drew
        rw [← hW4] at bx4 br4 hT4 hbw4
        obtain ⟨Y, hY⟩ : ∃ Y, Y = quTo X k := ⟨_, rfl⟩
        rw [← hY] at bx4
        have HYL : Hid (Y.length = 16) := by unfold Hid; rw [hY, quTo_len, HXL.out]
        have HYW : Hid (Wds Y) := by unfold Hid; rw [hY]; exact quTo_ok HXW.out _
        have HY := Lib.hid hY
        obtain ⟨f, hf⟩ : ∃ f, f = four Y q := ⟨_, rfl⟩
        have HFO : Hid f.ok := by unfold Hid; rw [hf]; exact four_ok HYW.out _
        obtain ⟨r, hr⟩ : ∃ r, r = qr f := ⟨_, rfl⟩
        have HR := Lib.hid hr
        have HF := Lib.hid hf
        obtain ⟨ia, ib, ic, id, n1, n2, n3, n4, n5, n6⟩ := hap
        obtain ⟨S, hSd⟩ : ∃ S : World → Prop, S = fun w' => Bl w' gx (us Y) 47 := ⟨_, rfl⟩
        have hS : S W4 := by rw [hSd]; exact bx4
        have HSa : Hid (∀ w', S w' → w'.cell? ⟨gx, q.a, none⟩ = some (.int .u32 (f.a : Int))) := by unfold Hid; intro w' h; rw [hSd] at h; rw [Bl.cell h, us_at (by rw [HYL.out]; exact ia), hf]; rfl
        have HSb : Hid (∀ w', S w' → w'.cell? ⟨gx, q.b, none⟩ = some (.int .u32 (f.b : Int))) := by unfold Hid; intro w' h; rw [hSd] at h; rw [Bl.cell h, us_at (by rw [HYL.out]; exact ib), hf]; rfl
        have HSc : Hid (∀ w', S w' → w'.cell? ⟨gx, q.c, none⟩ = some (.int .u32 (f.c : Int))) := by unfold Hid; intro w' h; rw [hSd] at h; rw [Bl.cell h, us_at (by rw [HYL.out]; exact ic), hf]; rfl
        have HSd : Hid (∀ w', S w' → w'.cell? ⟨gx, q.d, none⟩ = some (.int .u32 (f.d : Int))) := by unfold Hid; intro w' h; rw [hSd] at h; rw [Bl.cell h, us_at (by rw [HYL.out]; exact id), hf]; rfl
        have HW4 := Lib.hid hW4
        have ja : (q.a : Int) < 16 := by omega
        have jb : (q.b : Int) < 16 := by omega
        have jc : (q.c : Int) < 16 := by omega
        have jd : (q.d : Int) < 16 := by omega
        clear hY hf hr hSd hW4 bx3 br3 hT3 hbw3
        refine wp_region_K 23 S (by kernel_rfl) (by rw [← HW4.out]; exact hS) (fun _ => ?_)
        rw [← HW4.out]
        refine wpAnyK_take0 (i := 0) (v := (.int .i64 (q.a : Int))) rfl (by kernel_rfl) (by kernel_rfl) (by kernel_rfl) (by kernel_rfl) (fun _ _ _ h => h) (Or.inl ⟨by rfl, fun _ => by go_simp⟩) hS ?_
        simp only [List.getElem_toArray, List.getElem_cons_succ, List.getElem_cons_zero, Act.put, List.setIfInBounds_toArray, List.set_cons_zero, List.set_cons_succ]
        refine wpAnyK_take0 (i := 1) (v := (.int .i64 (q.b : Int))) rfl (by kernel_rfl) (by kernel_rfl) (by kernel_rfl) (by kernel_rfl) (fun _ _ _ h => h) (Or.inl ⟨by rfl, fun _ => by go_simp⟩) hS ?_
        simp only [List.getElem_toArray, List.getElem_cons_succ, List.getElem_cons_zero, Act.put, List.setIfInBounds_toArray, List.set_cons_zero, List.set_cons_succ]
        refine wpAnyK_take0 (i := 2) (v := (.int .i64 (q.c : Int))) rfl (by kernel_rfl) (by kernel_rfl) (by kernel_rfl) (by kernel_rfl) (fun _ _ _ h => h) (Or.inl ⟨by rfl, fun _ => by go_simp⟩) hS ?_
        simp only [List.getElem_toArray, List.getElem_cons_succ, List.getElem_cons_zero, Act.put, List.setIfInBounds_toArray, List.set_cons_zero, List.set_cons_succ]
        refine wpAnyK_take0 (i := 3) (v := (.int .i64 (q.d : Int))) rfl (by kernel_rfl) (by kernel_rfl) (by kernel_rfl) (by kernel_rfl) (fun _ _ _ h => h) (Or.inl ⟨by rfl, fun _ => by go_simp⟩) hS ?_
        simp only [List.getElem_toArray, List.getElem_cons_succ, List.getElem_cons_zero, Act.put, List.setIfInBounds_toArray, List.set_cons_zero, List.set_cons_succ]
        refine wpAnyK_take0 (i := 4) (v := (.int .i64 (q.a : Int))) rfl (by kernel_rfl) (by kernel_rfl) (by kernel_rfl) (by kernel_rfl) (fun _ _ _ h => h) (Or.inl ⟨by rfl, fun _ => by go_simp⟩) hS ?_
        simp only [List.getElem_toArray, List.getElem_cons_succ, List.getElem_cons_zero, Act.put, List.setIfInBounds_toArray, List.set_cons_zero, List.set_cons_succ]
        refine wpAnyK_take0 (i := 5) (v := (.pointer (some ⟨gx, q.a, none⟩))) rfl (by kernel_rfl) (by kernel_rfl) (by kernel_rfl) (by kernel_rfl) (fun _ _ _ h => h) (Or.inl ⟨by rfl, fun _ => by go_simp⟩) hS ?_
        simp only [List.getElem_toArray, List.getElem_cons_succ, List.getElem_cons_zero, Act.put, List.setIfInBounds_toArray, List.set_cons_zero, List.set_cons_succ]
        refine wpAnyK_take0 (i := 7) (v := (.int .i64 (q.b : Int))) rfl (by kernel_rfl) (by kernel_rfl) (by kernel_rfl) (by kernel_rfl) (fun _ _ _ h => h) (Or.inl ⟨by rfl, fun _ => by go_simp⟩) hS ?_
        simp only [List.getElem_toArray, List.getElem_cons_succ, List.getElem_cons_zero, Act.put, List.setIfInBounds_toArray, List.set_cons_zero, List.set_cons_succ]
        refine wpAnyK_take0 (i := 8) (v := (.pointer (some ⟨gx, q.b, none⟩))) rfl (by kernel_rfl) (by kernel_rfl) (by kernel_rfl) (by kernel_rfl) (fun _ _ _ h => h) (Or.inl ⟨by rfl, fun _ => by go_simp⟩) hS ?_
        simp only [List.getElem_toArray, List.getElem_cons_succ, List.getElem_cons_zero, Act.put, List.setIfInBounds_toArray, List.set_cons_zero, List.set_cons_succ]
        refine wpAnyK_take0 (i := 10) (v := (.int .i64 (q.c : Int))) rfl (by kernel_rfl) (by kernel_rfl) (by kernel_rfl) (by kernel_rfl) (fun _ _ _ h => h) (Or.inl ⟨by rfl, fun _ => by go_simp⟩) hS ?_
        simp only [List.getElem_toArray, List.getElem_cons_succ, List.getElem_cons_zero, Act.put, List.setIfInBounds_toArray, List.set_cons_zero, List.set_cons_succ]
        refine wpAnyK_take0 (i := 11) (v := (.pointer (some ⟨gx, q.c, none⟩))) rfl (by kernel_rfl) (by kernel_rfl) (by kernel_rfl) (by kernel_rfl) (fun _ _ _ h => h) (Or.inl ⟨by rfl, fun _ => by go_simp⟩) hS ?_
        simp only [List.getElem_toArray, List.getElem_cons_succ, List.getElem_cons_zero, Act.put, List.setIfInBounds_toArray, List.set_cons_zero, List.set_cons_succ]
        refine wpAnyK_take0 (i := 13) (v := (.int .i64 (q.d : Int))) rfl (by kernel_rfl) (by kernel_rfl) (by kernel_rfl) (by kernel_rfl) (fun _ _ _ h => h) (Or.inl ⟨by rfl, fun _ => by go_simp⟩) hS ?_
        simp only [List.getElem_toArray, List.getElem_cons_succ, List.getElem_cons_zero, Act.put, List.setIfInBounds_toArray, List.set_cons_zero, List.set_cons_succ]
        refine wpAnyK_take0 (i := 14) (v := (.pointer (some ⟨gx, q.d, none⟩))) rfl (by kernel_rfl) (by kernel_rfl) (by kernel_rfl) (by kernel_rfl) (fun _ _ _ h => h) (Or.inl ⟨by rfl, fun _ => by go_simp⟩) hS ?_
        simp only [List.getElem_toArray, List.getElem_cons_succ, List.getElem_cons_zero, Act.put, List.setIfInBounds_toArray, List.set_cons_zero, List.set_cons_succ]
        refine wpAnyK_take (i := 6) (v := (.int .u32 (f.a : Int))) rfl (by kernel_rfl) (by kernel_rfl) (by kernel_rfl) (by kernel_rfl) (fun _ _ _ h => h) (Or.inl ⟨by rfl, fun w9 hw9 => by have hq9 := HSa.out w9 hw9; go_simp⟩) hS ?_
        simp only [List.getElem_toArray, List.getElem_cons_succ, List.getElem_cons_zero, Act.put, List.setIfInBounds_toArray, List.set_cons_zero, List.set_cons_succ]
        refine wpAnyK_take (i := 9) (v := (.int .u32 (f.b : Int))) rfl (by kernel_rfl) (by kernel_rfl) (by kernel_rfl) (by kernel_rfl) (fun _ _ _ h => h) (Or.inl ⟨by rfl, fun w9 hw9 => by have hq9 := HSb.out w9 hw9; go_simp⟩) hS ?_
        simp only [List.getElem_toArray, List.getElem_cons_succ, List.getElem_cons_zero, Act.put, List.setIfInBounds_toArray, List.set_cons_zero, List.set_cons_succ]
        refine wpAnyK_take (i := 12) (v := (.int .u32 (f.c : Int))) rfl (by kernel_rfl) (by kernel_rfl) (by kernel_rfl) (by kernel_rfl) (fun _ _ _ h => h) (Or.inl ⟨by rfl, fun w9 hw9 => by have hq9 := HSc.out w9 hw9; go_simp⟩) hS ?_
        simp only [List.getElem_toArray, List.getElem_cons_succ, List.getElem_cons_zero, Act.put, List.setIfInBounds_toArray, List.set_cons_zero, List.set_cons_succ]
        refine wpAnyK_take (i := 15) (v := (.int .u32 (f.d : Int))) rfl (by kernel_rfl) (by kernel_rfl) (by kernel_rfl) (by kernel_rfl) (fun _ _ _ h => h) (Or.inl ⟨by rfl, fun w9 hw9 => by have hq9 := HSd.out w9 hw9; go_simp⟩) hS ?_
        simp only [List.getElem_toArray, List.getElem_cons_succ, List.getElem_cons_zero, Act.put, List.setIfInBounds_toArray, List.set_cons_zero, List.set_cons_succ]
        refine wpAnyK_one (i := 16) (by kernel_rfl) rfl (by decide) (by rfl) (fun K hK => ?_)
        simp only [List.getElem_toArray, List.getElem_cons_succ, List.getElem_cons_zero, Act.put, List.setIfInBounds_toArray, List.set_cons_zero, List.set_cons_succ]
        go_simp
        refine (qround_any f r _ HFO.out HR.out).mono ?_
        rintro e w' ⟨rfl, rfl⟩
        refine hK.out _ _ hS ?_
        clear hK K
        refine wpAnyK_take0 (i := 17) (v := (.tuple #[.int .u32 (r.a : Int), .int .u32 (r.b : Int), .int .u32 (r.c : Int), .int .u32 (r.d : Int)])) rfl (by kernel_rfl) (by kernel_rfl) (by kernel_rfl) (by kernel_rfl) (fun _ _ _ h => h) (Or.inl ⟨by rfl, fun _ => by go_simp⟩) hS ?_
        simp only [List.getElem_toArray, List.getElem_cons_succ, List.getElem_cons_zero, Act.put, List.setIfInBounds_toArray, List.set_cons_zero, List.set_cons_succ]
        refine wpAnyK_take0 (i := 18) (v := (.int .u32 (r.a : Int))) rfl (by kernel_rfl) (by kernel_rfl) (by kernel_rfl) (by kernel_rfl) (fun _ _ _ h => h) (Or.inl ⟨by rfl, fun _ => by go_simp⟩) hS ?_
        simp only [List.getElem_toArray, List.getElem_cons_succ, List.getElem_cons_zero, Act.put, List.setIfInBounds_toArray, List.set_cons_zero, List.set_cons_succ]
        refine wpAnyK_take0 (i := 19) (v := (.int .u32 (r.b : Int))) rfl (by kernel_rfl) (by kernel_rfl) (by kernel_rfl) (by kernel_rfl) (fun _ _ _ h => h) (Or.inl ⟨by rfl, fun _ => by go_simp⟩) hS ?_
        simp only [List.getElem_toArray, List.getElem_cons_succ, List.getElem_cons_zero, Act.put, List.setIfInBounds_toArray, List.set_cons_zero, List.set_cons_succ]
        refine wpAnyK_take0 (i := 20) (v := (.int .u32 (r.c : Int))) rfl (by kernel_rfl) (by kernel_rfl) (by kernel_rfl) (by kernel_rfl) (fun _ _ _ h => h) (Or.inl ⟨by rfl, fun _ => by go_simp⟩) hS ?_
        simp only [List.getElem_toArray, List.getElem_cons_succ, List.getElem_cons_zero, Act.put, List.setIfInBounds_toArray, List.set_cons_zero, List.set_cons_succ]
        refine wpAnyK_take0 (i := 21) (v := (.int .u32 (r.d : Int))) rfl (by kernel_rfl) (by kernel_rfl) (by kernel_rfl) (by kernel_rfl) (fun _ _ _ h => h) (Or.inl ⟨by rfl, fun _ => by go_simp⟩) hS ?_
        simp only [List.getElem_toArray, List.getElem_cons_succ, List.getElem_cons_zero, Act.put, List.setIfInBounds_toArray, List.set_cons_zero, List.set_cons_succ]
        refine wpAnyK_take0 (i := 22) (v := (.pointer (some ⟨gx, q.a, none⟩))) rfl (by kernel_rfl) (by kernel_rfl) (by kernel_rfl) (by kernel_rfl) (fun _ _ _ h => h) (Or.inl ⟨by rfl, fun _ => by go_simp⟩) hS ?_
        simp only [List.getElem_toArray, List.getElem_cons_succ, List.getElem_cons_zero, Act.put, List.setIfInBounds_toArray, List.set_cons_zero, List.set_cons_succ]
        have hc1 := HSa.out _ hS
        have hf1 := bx4.frozen q.a
        refine wpAnyK_K (by kernel_rfl) rfl (by rfl) (fun K hK => ?_)
        simp only [List.getElem_toArray, List.getElem_cons_succ, List.getElem_cons_zero, Act.put, List.setIfInBounds_toArray, List.set_cons_zero, List.set_cons_succ]
        go_simp
        refine hK.out _ _ ?_
        clear hK K hc1 hf1 HSa HSb HSc HSd
        obtain ⟨W5, hW5⟩ : ∃ W, W = W4.setCell ⟨gx, q.a, none⟩ (.int .u32 (r.a : Int)) := ⟨_, rfl⟩
        have bx5 := bx4.set q.a (.int .u32 (r.a : Int))
        have br5 := br4.set_other ⟨gx, q.a, none⟩ (.int .u32 (r.a : Int)) (by simp)
        have hT5 := hT4.set gx q.a (.int .u32 (r.a : Int)) (by omega)
        have hbw5 := hbw4.setCell (p := ⟨gx, q.a, none⟩) (Nat.le_of_eq HGX.out.symm) (.int .u32 (r.a : Int))
        rw [← hW5] at bx5 br5 hT5 hbw5 ⊢
        clear hW5 bx4 br4 hT4 hbw4
        refine wpAny_take (i := 24) (v := (.pointer (some ⟨gx, q.b, none⟩))) rfl (by kernel_rfl) (by kernel_rfl) (by kernel_rfl) (fun _ _ _ h => h) (Or.inl ⟨by rfl, fun _ => by go_simp⟩) ?_
        simp only [List.getElem_toArray, List.getElem_cons_succ, List.getElem_cons_zero, Act.put, List.setIfInBounds_toArray, List.set_cons_zero, List.set_cons_succ]
        have hc1 := bx5.cell q.b
        rw [List.getElem?_eq_getElem (by simp [us_len, HYL.out]; exact ib)] at hc1
        have hf1 := bx5.frozen q.b
        refine wpAny_one (i := 25) (by kernel_rfl) rfl (by rfl) (fun K hK => ?_)
        simp only [List.getElem_toArray, List.getElem_cons_succ, List.getElem_cons_zero, Act.put, List.setIfInBounds_toArray, List.set_cons_zero, List.set_cons_succ]
        go_simp
        refine hK.out _ _ ?_
        clear hK K hc1 hf1
        obtain ⟨W6, hW6⟩ : ∃ W, W = W5.setCell ⟨gx, q.b, none⟩ (.int .u32 (r.b : Int)) := ⟨_, rfl⟩
        have bx6 := bx5.set q.b (.int .u32 (r.b : Int))
        have br6 := br5.set_other ⟨gx, q.b, none⟩ (.int .u32 (r.b : Int)) (by simp)
        have hT6 := hT5.set gx q.b (.int .u32 (r.b : Int)) (by omega)
        have hbw6 := hbw5.setCell (p := ⟨gx, q.b, none⟩) (Nat.le_of_eq HGX.out.symm) (.int .u32 (r.b : Int))
        rw [← hW6] at bx6 br6 hT6 hbw6 ⊢
        clear hW6 bx5 br5 hT5 hbw5
        refine wpAny_take (i := 26) (v := (.pointer (some ⟨gx, q.c, none⟩))) rfl (by kernel_rfl) (by kernel_rfl) (by kernel_rfl) (fun _ _ _ h => h) (Or.inl ⟨by rfl, fun _ => by go_simp⟩) ?_
        simp only [List.getElem_toArray, List.getElem_cons_succ, List.getElem_cons_zero, Act.put, List.setIfInBounds_toArray, List.set_cons_zero, List.set_cons_succ]
        have hc1 := bx6.cell q.c
        rw [List.getElem?_eq_getElem (by simp [us_len, HYL.out]; exact ic)] at hc1
        have hf1 := bx6.frozen q.c
        refine wpAny_one (i := 27) (by kernel_rfl) rfl (by rfl) (fun K hK => ?_)
        simp only [List.getElem_toArray, List.getElem_cons_succ, List.getElem_cons_zero, Act.put, List.setIfInBounds_toArray, List.set_cons_zero, List.set_cons_succ]
        go_simp
        refine hK.out _ _ ?_
        clear hK K hc1 hf1
        obtain ⟨W7, hW7⟩ : ∃ W, W = W6.setCell ⟨gx, q.c, none⟩ (.int .u32 (r.c : Int)) := ⟨_, rfl⟩
        have bx7 := bx6.set q.c (.int .u32 (r.c : Int))
        have br7 := br6.set_other ⟨gx, q.c, none⟩ (.int .u32 (r.c : Int)) (by simp)
        have hT7 := hT6.set gx q.c (.int .u32 (r.c : Int)) (by omega)
        have hbw7 := hbw6.setCell (p := ⟨gx, q.c, none⟩) (Nat.le_of_eq HGX.out.symm) (.int .u32 (r.c : Int))
        rw [← hW7] at bx7 br7 hT7 hbw7 ⊢
        clear hW7 bx6 br6 hT6 hbw6
        refine wpAny_take (i := 28) (v := (.pointer (some ⟨gx, q.d, none⟩))) rfl (by kernel_rfl) (by kernel_rfl) (by kernel_rfl) (fun _ _ _ h => h) (Or.inl ⟨by rfl, fun _ => by go_simp⟩) ?_
        simp only [List.getElem_toArray, List.getElem_cons_succ, List.getElem_cons_zero, Act.put, List.setIfInBounds_toArray, List.set_cons_zero, List.set_cons_succ]
        have hc1 := bx7.cell q.d
        rw [List.getElem?_eq_getElem (by simp [us_len, HYL.out]; exact id)] at hc1
        have hf1 := bx7.frozen q.d
        refine wpAny_one (i := 29) (by kernel_rfl) rfl (by rfl) (fun K hK => ?_)
        simp only [List.getElem_toArray, List.getElem_cons_succ, List.getElem_cons_zero, Act.put, List.setIfInBounds_toArray, List.set_cons_zero, List.set_cons_succ]
        go_simp
        refine hK.out _ _ ?_
        clear hK K hc1 hf1
        obtain ⟨W8, hW8⟩ : ∃ W, W = W7.setCell ⟨gx, q.d, none⟩ (.int .u32 (r.d : Int)) := ⟨_, rfl⟩
        have bx8 := bx7.set q.d (.int .u32 (r.d : Int))
        have br8 := br7.set_other ⟨gx, q.d, none⟩ (.int .u32 (r.d : Int)) (by simp)
        have hT8 := hT7.set gx q.d (.int .u32 (r.d : Int)) (by omega)
        have hbw8 := hbw7.setCell (p := ⟨gx, q.d, none⟩) (Nat.le_of_eq HGX.out.symm) (.int .u32 (r.d : Int))
        rw [us_put4] at bx8
        rw [← hW8] at bx8 br8 hT8 hbw8 ⊢
        clear hW8 bx7 br7 hT7 hbw7
        refine wpAny_done (by kernel_rfl) ?_ _
        have HN : Hid (put4 Y q r = quTo X (k + 1)) := by unfold Hid; rw [quTo, ← HY.out, ← HQ.out, qAt, ← HF.out, ← HR.out]
        go_wp2
        go_roundw
        case rel => exact ⟨k + 1, by omega, by go_num, by rw [← HN.out]; exact bx8, br8, hT8, hbw8⟩
        case measure => simp [intOf]; omega
      · have HK : Hid (k = 8) := (by omega : k = 8)
        rw [HK.out] at bx
        have HN : Hid (quTo X 8 = rds x (10 - m + 1)) := by unfold Hid; rw [rds, ← HXD.out]
        rw [HN.out] at bx
        by_cases hm : m = 1
        · obtain ⟨Z, hZ⟩ : ∃ Z, Z = rds x (10 - m + 1) := ⟨_, rfl⟩
          rw [← hZ] at bx HN
          have HZ : Hid (Z.length = 16) := by unfold Hid; rw [hZ, rds_len, HX.out]
          have HZZ : Hid (Z = R) := by unfold Hid; rw [hZ, hm, HRR.out]
          have hpos : ¬ (0 : Int) < (m : Int) - 1 := by omega
          have HB := Lib.hid bx
          clear hZ hm HN bx HXD
          go_wp2_with (first
            | (refine wpList_load_mid rfl 47 _ rfl _ _ rfl (us Z) _ HB.out.whole Tryd.underlying47 rfl (by rw [size_16, us_len, HZ.out]) ?_)
            | (refine wpList_store_mid rfl 47 _ _ rfl _ _ (us Z).toArray rfl rfl (br.there_ (by simp [zeros, us_len, HZ.out])) (by rw [size_16, List.size_toArray, us_len, HZ.out]) (all_oneCell_toArray (us_one _)) ?_))
          simp only [Exit.jump]
          have hfin := br.over (vs := us Z) (by rw [us_len, HZ.out, zeros_len])
          exact ret_row Tryd.results27 rfl hfin Tryd.underlying47 rfl (by rw [size_16, us_len, HZ.out]) rfl ⟨by rw [HZZ.out], below_setCells hb (by have := HGX.out; omega) _ _⟩
        · obtain ⟨Z, hZ⟩ : ∃ Z, Z = rds x (10 - m + 1) := ⟨_, rfl⟩
          rw [← hZ] at bx HN
          have HZZ := Lib.hid hZ
          have hpos : (0 : Int) < (m : Int) - 1 := by omega
          clear hZ HN HXD
          go_wp2
          go_step3
          have e1 : (m : Int) - 1 = ((m - 1 : Nat) : Int) := by omega
          rw [e1]
          refine ⟨rfl, ⟨m - 1, _, _, _, _, _, _, _, _, _, _, _, _, _, _, _, _, _, _, _, _, _, _, _, _, _, _, _, _, _, _, _, _, _, _, _, _, _, _, _, _, _, _, _, _, _, _, _, _, _, _, rfl, by omega, by omega, ?_, br, hT, hb⟩, ?_⟩
          · rw [show 10 - (m - 1) = 10 - m + 1 by omega, ← HZZ.out]; exact bx
          · simp [intOf]; omega

end Go.Proofs.YtnhpamfmbledmaaDoor
