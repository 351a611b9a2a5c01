/- Layer 10, nonce: Bytes, Of, Read. -/
import Derived.Test.YtigofelbnjjigaaNon
namespace Go.Proofs.Ytigofelbnjjigaa
set_option maxRecDepth 100000
open Go Go.RowKit
set_option linter.unusedVariables false
set_option linter.unusedSimpArgs false

/-- The nonce of a counter, or nothing. -/
def nbL (e l : Int) : List UInt8 := if cnok e l = true then nonceL e.toNat l.toNat else []
def nbE (e l : Int) : Int := if cnok e l = true then 0 else 1
theorem nbL_le (e l : Int) : (nbL e l).length ≤ 12 := by unfold nbL; split <;> simp [nonceL_len]

theorem nonce_splice (a b : List UInt8) (ha : a.length = 4) (hb : b.length = 8) : splice (splice (zeros .u8 12) 0 (cb a)) 4 (cb b) = cb (a ++ b) := by
  rw [zeros_cb, ← cb_splice, ← cb_splice]
  congr 1
  unfold splice
  simp [ha, hb]

theorem size_n12 : (Try.prog.info? 53).map (·.size) = some 12 := by kernel_rfl

theorem zero_n12 : (Try.prog.info? 53).map (·.zero) = some (some (.agg (zeros .u8 12).toArray)) := by kernel_rfl

set_option maxHeartbeats 1000000 in
theorem nbytes_any (e l : Int) (w : World) : Calls Try.prog 18 #[.agg (cnt e l).toArray] w (RetBytes 53 w (nbL e l).length (nbL e l)) := by
  obtain ⟨W, HW, b0, hb0, hsz, hc0, hc1⟩ := put_cn w e l 23
  have HB := Lib.hid b0
  have hcall := nright_any e l W
  by_cases hok : cnok e l = true
  · obtain ⟨h0, h1, h2, h3⟩ := (cnok_iff e l).1 hok
    obtain ⟨en, rfl⟩ : ∃ en : Nat, e = en := ⟨e.toNat, by omega⟩
    obtain ⟨ln, rfl⟩ : ∃ ln : Nat, l = ln := ⟨l.toNat, by omega⟩
    rw [hok] at hcall
    have HC := Lib.hid hcall
    have HL : Hid (nbL en ln = stored en false ++ told8 ln) := by unfold Hid nbL; rw [if_pos hok]; rfl
    obtain ⟨R, hR⟩ : ∃ R, R = nbL en ln := ⟨_, rfl⟩
    rw [← hR] at HL ⊢
    have HRL : Hid (R.length = 12) := by unfold Hid; rw [HL.out, List.length_append, stored_len, told8_len]
    rw [HRL.out]
    have hwe : IntKind.u32.wrap (en : Int) = (en : Int) := by simp only [IntKind.wrap_u32]; omega
    have hwl : IntKind.u64.wrap (ln : Int) = (ln : Int) := by simp only [IntKind.wrap_u64]; omega
    have HWE := Lib.hid hwe
    have HWL := Lib.hid hwl
    clear hok h0 h1 h2 h3 hcall hsz hR hc0 hc1 hwe hwl
    go_enter Try.func18, Try.ntmps18
    go_wp2_with (first
      | (refine wpList_box_agg rfl 23 _ rfl (cnt en ln) rfl ?_; rw [HW.out])
      | (refine wpList_load_mid rfl 23 _ rfl _ _ rfl (cnt en ln) _ HB.out.whole Try.underlying23 rfl size_cn ?_)
      | (go_at_call 10; refine HC.out.mono ?_; rintro r w3 ⟨rfl, hb3⟩)
      | (refine wpList_alloc_zero rfl 53 rfl (zeros .u8 12) zero_n12 ?_)
      | fail)
    replace b0 := b0.next hb3
    replace hb0 := next hb0 hb3
    have b4 := Bl.new w3 (zeros .u8 12) 53
    have hb4 : Below w3.heap.size w3 (w3.alloc (.cells (zeros .u8 12).toArray 53)) := (Below.refl _ w3).alloc (Nat.le_refl _) _
    obtain ⟨W4, hW4⟩ : ∃ W, W = w3.alloc (.cells (zeros .u8 12).toArray 53) := ⟨_, rfl⟩
    rw [← hW4] at b4 hb4
    obtain ⟨g, hg⟩ : ∃ g, g = w3.heap.size := ⟨_, rfl⟩
    have hgl : w.heap.size < g := by rw [hg]; exact b0.lt
    rw [← hg] at b4
    have hbl : Below w.heap.size w W4.drew := (next hb0 hb4).drew
    have b4d := b4.drew
    have b0d := (b0.next hb4).drew
    have hd0 : W4.drew.cell? ⟨w.heap.size, 0, none⟩ = some (.int .i64 (en : Int)) := by rw [b0d.cell]; rfl
    have HW4 := Lib.hid hW4
    have HG := Lib.hid hg
    obtain ⟨S1, hS1⟩ : ∃ x, x = stored en false := ⟨_, rfl⟩
    obtain ⟨S2, hS2⟩ : ∃ x, x = told8 ln := ⟨_, rfl⟩
    have HS1L : Hid (S1.length = 4) := by unfold Hid; rw [hS1, stored_len]
    have HS2L : Hid (S2.length = 8) := by unfold Hid; rw [hS2, told8_len]
    rw [← hS1, ← hS2] at HL
    have HS1 := Lib.hid hS1
    have HS2 := Lib.hid hS2
    have hsa := run_slice_arr_to (P := Try.prog) (t := 53) (e := 5) (g := g) (o := 0) (n := 12) (ht := Try.underlying53) (he := u8_size) (kh := .i64) (H := 4) (h := 4) (eH := rfl) (h2 := by omega) (_h3 := by omega)
    have hsb := run_slice_arr_from (P := Try.prog) (t := 53) (e := 5) (g := g) (o := 0) (n := 12) (ht := Try.underlying53) (he := u8_size) (kl := .i64) (L := 4) (l := 4) (eL := rfl) (h3 := by omega)
    have HSA := Lib.hid hsa
    have HSB := Lib.hid hsb
    clear hW4 hg hS1 hS2 hsa hsb b0 hb0 b4 hb4 hb3
    rw [← HW4.out, ← HG.out]
    refine wp_region_any (by kernel_rfl) ?_
    change wpAny _ _ _ _ _ _ _ (World.drew _)
    refine wpAny_take (i := 0) (v := (.slice (some ⟨g, 0, none⟩) 4 12)) rfl (by kernel_rfl) (by kernel_rfl) (by kernel_rfl) (fun _ _ _ h => h) (Or.inl ⟨by rfl, fun _ => by go_simp⟩) ?_
    simp only [List.getElem_toArray, List.getElem_cons_succ, List.getElem_cons_zero, Act.put, List.setIfInBounds_toArray, List.set_cons_zero, List.set_cons_succ]
    refine wpAny_take (i := 1) (v := (.pointer (some ⟨w.heap.size, 0, none⟩))) rfl (by kernel_rfl) (by kernel_rfl) (by kernel_rfl) (fun _ _ _ h => h) (Or.inl ⟨by rfl, fun _ => by go_simp⟩) ?_
    simp only [List.getElem_toArray, List.getElem_cons_succ, List.getElem_cons_zero, Act.put, List.setIfInBounds_toArray, List.set_cons_zero, List.set_cons_succ]
    refine wpAny_one (i := 2) (by kernel_rfl) rfl (by rfl) (fun K hK => ?_)
    simp only [List.getElem_toArray, List.getElem_cons_succ, List.getElem_cons_zero, Act.put, List.setIfInBounds_toArray, List.set_cons_zero, List.set_cons_succ]
    go_simp
    refine hK.out _ _ ?_
    clear hK K
    refine wpAny_take (i := 3) (v := (.int .u32 (en : Int))) rfl (by kernel_rfl) (by kernel_rfl) (by kernel_rfl) (fun _ _ _ h => h) (Or.inl ⟨by rfl, fun _ => by go_simp; rw [HWE.out]⟩) ?_
    simp only [List.getElem_toArray, List.getElem_cons_succ, List.getElem_cons_zero, Act.put, List.setIfInBounds_toArray, List.set_cons_zero, List.set_cons_succ]
    refine wpAny_one (i := 4) (by kernel_rfl) rfl (by rfl) (fun K hK => ?_)
    simp only [List.getElem_toArray, List.getElem_cons_succ, List.getElem_cons_zero, Act.put, List.setIfInBounds_toArray, List.set_cons_zero, List.set_cons_succ]
    go_simp
    refine (store_any en false _).mono ?_
    rintro r w5 ⟨A5, c5, rfl, n5⟩
    rw [← HS1.out] at n5
    refine hK.out _ _ ?_
    clear hK K
    have b5 := b4d.next n5.below
    have b05 := b0d.next n5.below
    have hb5 := next hbl n5.below
    obtain ⟨w6, hcp, b6, hg6⟩ := run_copy_but (P := Try.prog) w5 30 30 3 5 Try.underlying30 u8_size g 0 4 12 _ A5 4 c5 (cb S1) n5.sl _ _ b5 (by rw [zeros_len]; omega) (cb_one _)
    rw [List.take_of_length_le (by rw [cb_len, HS1L.out]; omega)] at b6
    have b06 := b05.grown hg6 (by intro e; injection e with e; omega)
    have hb6 : Below w.heap.size w w6 := below_but hb5 hg6 hb5.size (by omega)
    have HCP := Lib.hid hcp
    clear hcp b5 b05 hb5 hg6 n5 b4d b0d hbl
    refine wpAny_one (i := 5) (by kernel_rfl) rfl (by rfl) (fun K hK => ?_)
    simp only [List.getElem_toArray, List.getElem_cons_succ, List.getElem_cons_zero, Act.put, List.setIfInBounds_toArray, List.set_cons_zero, List.set_cons_succ]
    go_simp
    rw [HCP.out]
    go_simp
    refine hK.out _ _ ?_
    clear hK K
    refine wpAny_done (by kernel_rfl) ?_ _
    go_wp2_with fail
    have hc6 : w6.drew.cell? ⟨w.heap.size, 1, none⟩ = some (.int .i64 (ln : Int)) := by rw [b06.drew.cell]; rfl
    refine wp_region_any (by kernel_rfl) ?_
    change wpAny _ _ _ _ _ _ _ (World.drew _)
    refine wpAny_take (i := 0) (v := (.slice (some ⟨g, 4, none⟩) 8 8)) rfl (by kernel_rfl) (by kernel_rfl) (by kernel_rfl) (fun _ _ _ h => h) (Or.inl ⟨by rfl, fun _ => by go_simp⟩) ?_
    simp only [List.getElem_toArray, List.getElem_cons_succ, List.getElem_cons_zero, Act.put, List.setIfInBounds_toArray, List.set_cons_zero, List.set_cons_succ]
    refine wpAny_take (i := 1) (v := (.pointer (some ⟨w.heap.size, 1, none⟩))) rfl (by kernel_rfl) (by kernel_rfl) (by kernel_rfl) (fun _ _ _ h => h) (Or.inl ⟨by rfl, fun _ => by go_simp⟩) ?_
    simp only [List.getElem_toArray, List.getElem_cons_succ, List.getElem_cons_zero, Act.put, List.setIfInBounds_toArray, List.set_cons_zero, List.set_cons_succ]
    refine wpAny_one (i := 2) (by kernel_rfl) rfl (by rfl) (fun K hK => ?_)
    simp only [List.getElem_toArray, List.getElem_cons_succ, List.getElem_cons_zero, Act.put, List.setIfInBounds_toArray, List.set_cons_zero, List.set_cons_succ]
    go_simp
    refine hK.out _ _ ?_
    clear hK K
    refine wpAny_take (i := 3) (v := (.int .u64 (ln : Int))) rfl (by kernel_rfl) (by kernel_rfl) (by kernel_rfl) (fun _ _ _ h => h) (Or.inl ⟨by rfl, fun _ => by go_simp; rw [HWL.out]⟩) ?_
    simp only [List.getElem_toArray, List.getElem_cons_succ, List.getElem_cons_zero, Act.put, List.setIfInBounds_toArray, List.set_cons_zero, List.set_cons_succ]
    refine wpAny_one (i := 4) (by kernel_rfl) rfl (by rfl) (fun K hK => ?_)
    simp only [List.getElem_toArray, List.getElem_cons_succ, List.getElem_cons_zero, Act.put, List.setIfInBounds_toArray, List.set_cons_zero, List.set_cons_succ]
    go_simp
    refine (tell_any ln _).mono ?_
    rintro r w7 ⟨A7, c7, rfl, n7⟩
    rw [← HS2.out] at n7
    refine hK.out _ _ ?_
    clear hK K
    have b7 := b6.drew.next n7.below
    have hb7 := next hb6.drew n7.below
    obtain ⟨w8, hcp, b8, hg8⟩ := run_copy_but (P := Try.prog) w7 30 30 3 5 Try.underlying30 u8_size g 4 8 8 _ A7 8 c7 (cb S2) n7.sl _ _ b7 (by unfold splice; simp [zeros_len, cb_len, HS1L.out]) (cb_one _)
    rw [List.take_of_length_le (by rw [cb_len, HS2L.out]; omega), nonce_splice _ _ HS1L.out HS2L.out, ← HL.out] at b8
    have hb8 : Below w.heap.size w w8 := below_but hb7 hg8 hb7.size (by omega)
    have HCP2 := Lib.hid hcp
    clear hcp b7 hb7 hg8 n7 b6 b06 hb6 hc6 hd0
    refine wpAny_one (i := 5) (by kernel_rfl) rfl (by rfl) (fun K hK => ?_)
    simp only [List.getElem_toArray, List.getElem_cons_succ, List.getElem_cons_zero, Act.put, List.setIfInBounds_toArray, List.set_cons_zero, List.set_cons_succ]
    go_simp
    rw [HCP2.out]
    go_simp
    refine hK.out _ _ ?_
    clear hK K
    refine wpAny_done (by kernel_rfl) ?_ _
    go_wp2
    go_ret
    exact retBytes rfl rfl (own_of_block b8 (by omega) (by rw [cb_len, HRL.out]) (by decide)) hb8
  · rw [Bool.not_eq_true] at hok
    rw [hok] at hcall
    have HC := Lib.hid hcall
    have HL : nbL e l = [] := by unfold nbL; rw [if_neg (by rw [hok]; simp)]
    rw [HL]
    clear hok hcall hsz hc0 hc1
    go_enter Try.func18, Try.ntmps18
    go_wp2_with (first
      | (refine wpList_box_agg rfl 23 _ rfl (cnt e l) rfl ?_; rw [HW.out])
      | (refine wpList_load_mid rfl 23 _ rfl _ _ rfl (cnt e l) _ HB.out.whole Try.underlying23 rfl size_cn ?_)
      | (go_at_call 10; refine HC.out.mono ?_; rintro r w3 ⟨rfl, hb3⟩))
    go_ret
    exact ⟨none, 0, rfl, World.ownsRow_nil _ _ _ _, next hb0 hb3⟩

/-- A counter that is written into a new variable: the world behind it under a name. -/
theorem put_cn2 (w : World) (e l : Int) (T : TypeId) : ∃ W, Hid ((w.alloc (.cells (cnt 0 0).toArray T)).setCells w.heap.size 0 (cnt e l).toArray.toList = W) ∧ (w.alloc (.cells (cnt 0 0).toArray T)).there w.heap.size 0 (cnt e l).toArray.size ∧
    Bl W w.heap.size (cnt e l) T ∧ Below w.heap.size w W ∧ W.heap.size = w.heap.size + 1 ∧ W.cell? ⟨w.heap.size, 0, none⟩ = some (.int .i64 e) ∧ W.cell? ⟨w.heap.size, 1, none⟩ = some (.int .i64 l) := by
  obtain ⟨b0, hb0, hsz0⟩ := put_new w (cnt 0 0) (cnt e l) T rfl
  exact ⟨_, (rfl : _ = _), (Bl.new w (cnt 0 0) T).there_ (by simp [cnt]), b0, hb0, hsz0, by rw [b0.cell]; rfl, by rw [b0.cell]; rfl⟩

set_option maxHeartbeats 1000000 in
theorem nof_any (e l : Int) (w : World) : Calls Try.prog 14 #[.int .i64 e, .int .i64 l] w (RetFill 53 w (nbL e l) (nbE e l)) := by
  obtain ⟨W, HW, hth, b0, hb0, hsz, hc0, hc1⟩ := put_cn2 w e l 23
  have hcall := nright_any e l W
  by_cases hok : cnok e l = true
  · have HE : nbE e l = 0 := by unfold nbE; rw [if_pos hok]
    rw [HE]
    rw [hok] at hcall
    have HC := Lib.hid hcall
    have HB := Lib.hid b0
    clear hok hcall hc0 hc1 hsz HE b0
    go_enter Try.func14, Try.ntmps14
    go_wp2_with (first
      | (refine wpList_build_to rfl 23 _ rfl (cnt e l) (built_cn e l) ?_)
      | (refine wpList_alloc_zero rfl 23 rfl (cnt 0 0) zero_cn ?_)
      | (refine wpList_store_mid rfl 23 _ _ rfl _ _ (cnt e l).toArray rfl rfl hth size_cn (all_oneCell_toArray (cnt_one _ _)) ?_; rw [HW.out])
      | (refine wpList_load_mid rfl 23 _ rfl _ _ rfl (cnt e l) _ HB.out.whole Try.underlying23 rfl size_cn ?_)
      | (refine wpList_load_mid rfl 23 _ rfl _ _ rfl (cnt e l) _ (HB.out.next hb3).whole Try.underlying23 rfl size_cn ?_)
      | (go_at_call 10; refine HC.out.mono ?_; rintro r w3 ⟨rfl, hb3⟩)
      | (go_at_call 18; refine (nbytes_any e l _).mono ?_; rintro r w4 ⟨A4, c4, rfl, n4⟩))
    go_ret2
    exact ⟨A4, _, c4, rfl, n4.down (next hb0 hb3)⟩
  · rw [Bool.not_eq_true] at hok
    have HE : nbE e l = 1 := by unfold nbE; rw [if_neg (by rw [hok]; simp)]
    have HL : nbL e l = [] := by unfold nbL; rw [if_neg (by rw [hok]; simp)]
    rw [HE, HL]
    rw [hok] at hcall
    have HC := Lib.hid hcall
    have HB := Lib.hid b0
    clear hok hcall hc0 hc1 hsz HE HL b0
    go_enter Try.func14, Try.ntmps14
    go_wp2_with (first
      | (refine wpList_build_to rfl 23 _ rfl (cnt e l) (built_cn e l) ?_)
      | (refine wpList_alloc_zero rfl 23 rfl (cnt 0 0) zero_cn ?_)
      | (refine wpList_store_mid rfl 23 _ _ rfl _ _ (cnt e l).toArray rfl rfl hth size_cn (all_oneCell_toArray (cnt_one _ _)) ?_; rw [HW.out])
      | (refine wpList_load_mid rfl 23 _ rfl _ _ rfl (cnt e l) _ HB.out.whole Try.underlying23 rfl size_cn ?_)
      | (go_at_call 10; refine HC.out.mono ?_; rintro r w3 ⟨rfl, hb3⟩))
    go_ret2
    exact ⟨none, 0, 0, rfl, World.ownsRow_nil _ _ _ _, next hb0 hb3⟩

/-- What twelve bytes are read as. -/
def rdB (b : List UInt8) : Bool := decide (b.length = 12) && (decide (val (b.take 4) ≤ 64) && decide (val (b.drop 4) ≤ 1099511627776))
def rdP (b : List UInt8) : Nat := if rdB b = true then val (b.take 4) else 0
def rdN (b : List UInt8) : Nat := if rdB b = true then val (b.drop 4) else 0
def rdE (b : List UInt8) : Int := if rdB b = true then 0 else 5
theorem rdB_iff (b : List UInt8) : rdB b = true ↔ b.length = 12 ∧ val (b.take 4) ≤ 64 ∧ val (b.drop 4) ≤ 1099511627776 := by unfold rdB; simp

theorem rd_ok {b : List UInt8} (h : b.length = 12) : cnok (val (b.take 4)) (IntKind.i64.wrap (val (b.drop 4))) = rdB b := by
  have v4 := val_lt (b.take 4)
  have v8 := val_lt (b.drop 4)
  rw [List.length_take, h] at v4
  rw [List.length_drop, h] at v8
  rw [Bool.eq_iff_iff, cnok_iff, rdB_iff]
  generalize val (b.take 4) = x at *
  generalize val (b.drop 4) = y at *
  simp only [IntKind.wrap_i64]
  simp at v4 v8
  omega

set_option maxHeartbeats 1000000 in
theorem nread_any (b : List UInt8) (w : World) (A : Option Addr) (n c : Nat) (h : Sl w w.heap.size A n (cb b)) (hc : n ≤ c) (hA : A = none → c = 0) (hm : n ≤ maxLen) :
    Calls Try.prog 16 #[.slice A n c] w fun r w' => r = .returned (.tuple #[.int .i64 (rdP b : Nat), .int .i64 (rdN b : Nat), .int .i64 (rdE b)]) ∧ Below w.heap.size w w' := by
  have hn : n = b.length := by rw [← h.1, cb_len]
  by_cases h12 : n = 12
  · subst h12
    have hr := rd_ok hn.symm
    have e1 : rdP b = if rdB b = true then val (b.take 4) else 0 := rfl
    have e2 : rdN b = if rdB b = true then val (b.drop 4) else 0 := rfl
    have e3 : rdE b = if rdB b = true then 0 else 5 := rfl
    have v4 := val_lt (b.take 4)
    have l4 : (b.take 4).length = 4 := by rw [List.length_take]; omega
    have l8 : (b.drop 4).length = 8 := by rw [List.length_drop]; omega
    rw [l4] at v4
    have hL : loadV (b.take 4) false = val (b.take 4) ∧ loadE (b.take 4) = 0 := by unfold loadV loadE; rw [if_pos l4, if_pos l4]; exact ⟨by simp, rfl⟩
    have hG : longV (b.drop 4) = val (b.drop 4) ∧ longE (b.drop 4) = 0 := by unfold longV longE; rw [if_pos l8, if_pos l8]; exact ⟨rfl, rfl⟩
    have v8 := val_lt (b.drop 4)
    rw [l8] at v8
    have hz : rdB b = true → IntKind.i64.wrap (val (b.drop 4)) = (val (b.drop 4) : Nat) := by
      intro hb
      have := ((rdB_iff b).1 hb).2.2
      simp only [IntKind.wrap_i64]
      omega
    obtain ⟨x, hx⟩ : ∃ x, x = val (b.take 4) := ⟨_, rfl⟩
    obtain ⟨y, hy⟩ : ∃ y, y = val (b.drop 4) := ⟨_, rfl⟩
    obtain ⟨z, hzd⟩ : ∃ z, z = IntKind.i64.wrap (y : Int) := ⟨_, rfl⟩
    obtain ⟨P, hP⟩ : ∃ P, P = rdP b := ⟨_, rfl⟩
    obtain ⟨N, hN⟩ : ∃ N, N = rdN b := ⟨_, rfl⟩
    obtain ⟨E, hE⟩ : ∃ E, E = rdE b := ⟨_, rfl⟩
    rw [← hP] at e1
    rw [← hN] at e2
    rw [← hE] at e3
    rw [← hP, ← hN, ← hE]
    rw [← hx] at e1 v4 hr hL
    rw [← hy] at e2 hr hG hz v8
    rw [← hzd] at hr hz
    have hxw : IntKind.i64.wrap (x : Int) = (x : Int) := by simp only [IntKind.wrap_i64]; omega
    have s4 := sl_take (h := 4) h (by omega)
    rw [show (cb b).take 4 = cb (b.take 4) by simp [cb]] at s4
    have s8 := sl_cut (k := 4) h (by omega) hc
    rw [show (cb b).drop 4 = cb (b.drop 4) by simp [cb]] at s8
    have HE1 := Lib.hid e1
    have HE2 := Lib.hid e2
    have HE3 := Lib.hid e3
    have HR := Lib.hid hr
    have HZ : Hid (rdB b = true → z = (y : Int)) := hz
    have HL := Lib.hid hL
    have HG := Lib.hid hG
    have HZD : Hid (wrap64 (y : Int) = z) := by unfold Hid; rw [hzd, IntWalk.i64_left]
    have HXW := Lib.hid hxw
    have hq : (((12 : Nat) : Int) != 12) = false := by decide
    clear hn e1 e2 e3 hr hz hL hG l4 l8 hx hy hzd hP hN hE hxw h
    obtain ⟨T, hT⟩ : ∃ T, T = rdB b := ⟨_, rfl⟩
    rw [← hT] at HE1 HE2 HE3 HR HZ
    clear hT
    rcases T with _ | _
    all_goals
     go_enter Try.func16, Try.ntmps16
     go_wp2_with (first
       | (refine wpList_slice_h rfl 30 _ _ rfl 5 Try.underlying30 u8_size A 12 c 4 .i64 _ rfl rfl rfl (by omega) ?_)
       | (go_at_call 20; refine (load_any (b.take 4) false w w.heap.size A 4 c s4 (by omega)).mono ?_; rintro r w1 ⟨rfl, hd1⟩; rw [HL.out.1, HL.out.2])
       | (refine wpList_slice_from rfl 30 _ _ rfl 5 Try.underlying30 u8_size A 12 c 4 .i64 _ rfl rfl rfl (by omega) hc hA ?_; intro A2 HA2)
       | (go_at_call 21; refine (long_any (b.drop 4) w1 w.heap.size A2 8 (c - 4) (by rw [HA2.out]; exact s8.below (hd1.below _)) (by omega)).mono ?_; rintro r w2 ⟨rfl, rfl⟩; rw [HG.out.1, HG.out.2])
       | (refine wpList_build_to rfl 23 _ rfl (cnt x z) (by rw [HZD.out]; exact built_cn x z) ?_; obtain ⟨W, HW, hth, b0, hb0, hsz, hc0, hc1⟩ := put_cn2 w1 x z 23)
       | (refine wpList_alloc_zero rfl 23 rfl (cnt 0 0) zero_cn ?_)
       | (refine wpList_store_mid rfl 23 _ _ rfl _ _ (cnt x z).toArray rfl rfl hth size_cn (all_oneCell_toArray (cnt_one _ _)) ?_; rw [HW.out])
       | (refine wpList_load_mid rfl 23 _ rfl _ _ rfl (cnt x z) _ b0.whole Try.underlying23 rfl size_cn ?_)
       | (go_at_call 10; refine (nright_any x z W).mono ?_; rintro r w3 ⟨rfl, hb3⟩; rw [HR.out]; have b3 := b0.next hb3; have hb3' := next (next (hd1.below w.heap.size) hb0) hb3; have hd0 : w3.cell? ⟨w1.heap.size, 0, none⟩ = some (.int .i64 (x : Int)) := (by rw [b3.cell]; rfl); have hd1 : w3.cell? ⟨w1.heap.size, 1, none⟩ = some (.int .i64 z) := (by rw [b3.cell]; rfl))
       | fail)
    · go_ret3
      have e1 := HE1.out
      have e2 := HE2.out
      have e3 := HE3.out
      rw [if_neg (by simp)] at e1 e2 e3
      subst e1; subst e2; subst e3
      exact ⟨rfl, hb3'⟩
    · have e1 := HE1.out
      have e2 := HE2.out
      have e3 := HE3.out
      have ez := HZ.out trivial
      rw [if_pos trivial] at e1 e2 e3
      subst e1; subst e2; subst e3; subst ez
      clear s4 s8 HL HG HA2 b3 b0 hb0 hb3 hth
      go_quiet (fail)
      go_wp2
      go_ret3
      exact ⟨rfl, (hb3'.trans (Drew.below ⟨_, rfl⟩ _))⟩
  · have hb : rdB b = false := by unfold rdB; rw [decide_eq_false (by omega)]; rfl
    have e1 : rdP b = 0 := by unfold rdP; rw [hb]; rfl
    have e2 : rdN b = 0 := by unfold rdN; rw [hb]; rfl
    have e3 : rdE b = 5 := by unfold rdE; rw [hb]; rfl
    rw [e1, e2, e3]
    have hq : ((n : Int) != 12) = true := by simp; omega
    clear hb e1 e2 e3 hn h12 h
    go_enter Try.func16, Try.ntmps16
    go_wp2
    go_ret3
    exact ⟨rfl, Below.refl _ _⟩

end Go.Proofs.Ytigofelbnjjigaa
