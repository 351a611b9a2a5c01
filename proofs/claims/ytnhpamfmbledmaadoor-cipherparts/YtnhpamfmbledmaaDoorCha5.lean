/- The walk of the law CipherParts. -/
import Derived.Test.YtnhpamfmbledmaaDoorCha4
import Derived.Test.YtnhpamfmbledmaaDoorCha1
namespace Go.Proofs.YtnhpamfmbledmaaDoor
open Go.RowKit
set_option linter.unusedVariables false
set_option linter.unusedSimpArgs false

theorem mix_part (key nonce : List UInt8) (f : Nat) (b : List UInt8) (k e : Nat) (h : mixE key nonce f b = 0) (he : e ≤ b.length) (hk : k * 64 < e) :
    f + k < 4294967296 ∧ mixE key nonce (f + k) ((b.drop (k * 64)).take (e - k * 64)) = 0 ∧ mixR key nonce (f + k) ((b.drop (k * 64)).take (e - k * 64)) = ((mixR key nonce f b).drop (k * 64)).take (e - k * 64) := by
  obtain ⟨e1, e2, e3⟩ := mix_ok key nonce f b h
  have hl : ((b.drop (k * 64)).take (e - k * 64)).length = e - k * 64 := by simp; omega
  have hb : blksN (e - k * 64) + k ≤ blksN b.length := by unfold blksN; omega
  have hpos : 0 < blksN (e - k * 64) := by unfold blksN; omega
  obtain ⟨g1, g2⟩ := mix_fits key nonce (f + k) ((b.drop (k * 64)).take (e - k * 64)) e2 (by rw [hl]; omega)
  refine ⟨by omega, g2, ?_⟩
  rw [g1, e1]
  apply List.ext_getElem?
  intro i
  by_cases hi : i < e - k * 64
  · have h1 : (mixL key nonce (f + k) ((b.drop (k * 64)).take (e - k * 64)))[i]? = some ((mixL key nonce (f + k) ((b.drop (k * 64)).take (e - k * 64))).getD i 0) := by
      have : i < (mixL key nonce (f + k) ((b.drop (k * 64)).take (e - k * 64))).length := by rw [mixL_len, hl]; exact hi
      simp [this]
    have h2 : (mixL key nonce f b)[k * 64 + i]? = some ((mixL key nonce f b).getD (k * 64 + i) 0) := by
      have : k * 64 + i < (mixL key nonce f b).length := by rw [mixL_len]; omega
      simp [this]
    rw [h1, mixL_at _ _ _ _ _ (by rw [hl]; exact hi), List.getElem?_take_of_lt hi, List.getElem?_drop, h2, mixL_at _ _ _ _ _ (by omega)]
    have h3 : ((b.drop (k * 64)).take (e - k * 64)).getD i 0 = b.getD (k * 64 + i) 0 := by
      rw [List.getD_eq_getElem?_getD, List.getElem?_take_of_lt hi, List.getElem?_drop, List.getD_eq_getElem?_getD]
    rw [h3, show f + k + i / 64 = f + (k * 64 + i) / 64 by omega, show i % 64 = (k * 64 + i) % 64 by omega]
  · rw [List.getElem?_eq_none (by rw [mixL_len, hl]; omega), List.getElem?_eq_none (by rw [List.length_take]; omega)]

theorem exec_slice_lh {P : Program} {a : Act} {o : Oper} (w : World) (t e : TypeId) (x lo hi : Operand) (ho : o.op = .slice t x (some lo) (some hi) none) (ht : P.underlying t = some (.slice e)) (he : (P.info? e).map (·.size) = some 1) (A : Option Addr) (n c l h : Nat) (kl kh : IntKind) (L H : Int)
    (hx : a.eval x = .slice A n c) (hlo : a.eval lo = .int kl L) (hhi : a.eval hi = .int kh H) (eL : L = l) (eH : H = h) (h1 : l ≤ h) (h2 : h ≤ c) (hA : A = none → c = 0) (A' : Option Addr) (hA' : A' = if c = l then A else A.map (·.add l)) :
    (execOp a.eval o).run P w = .ok (.value (.slice A' (h - l) (c - l))) w := by
  have hr := run_slice_lh (P := P) w t e ht he A n c l h kl kh L H eL eH h1 h2 hA
  unfold execOp
  simp only [ho, Option.map_some, Option.map_none, hx, hlo, hhi, Instr.sliceAt, Sem.run_bind, run_underlying ht, Result.andThen_ok, hr, hA']
  rfl

set_option maxRecDepth 100000 in
set_option maxHeartbeats 1000000 in
theorem cipherParts_st (A0 : Option Addr) (n0 c0 : Nat) (l0 : List UInt8) (A1 : Option Addr) (n1 c1 : Nat) (l1 : List UInt8) (f : Int) (A3 : Option Addr) (n3 c3 : Nat) (l3 : List UInt8) (at_ to_ : Nat) (w : World) (hT : TabC w)
    (s0 : InBytes w A0 n0 c0 l0) (s1 : InBytes w A1 n1 c1 l1) (wf : (Lit.int .u32 f).wf = true) (s3 : InBytes w A3 n3 c3 l3) (ha : at_ < 65536) (ht : to_ < 65536) :
    Calls Tryd.prog 7 #[.agg #[.slice A0 n0 c0, .slice A1 n1 c1, .int .u32 f, .slice A3 n3 c3], .int .u16 (at_ : Int), .int .u16 (to_ : Int)] w fun e w' => e = .returned (.bool true) ∧ Below w.heap.size w w' := by
  obtain ⟨bf0, bf1⟩ := bounds_u32 wf
  obtain ⟨F, rfl⟩ := Int.eq_ofNat_of_zero_le bf0
  have hF : F < 4294967296 := by omega
  clear wf bf0 bf1
  have y0 := s0.sl
  have z0 := s0.none_
  have e0 := s0.len
  have y1 := s1.sl
  have z1 := s1.none_
  have e1 := s1.len
  have y3 := s3.sl
  have z3 := s3.none_
  have e3 := s3.len
  have r0 := s0.room
  have r1 := s1.room
  have r3 := s3.room
  have k0 := s0.cap
  have k1 := s1.cap
  have k3 := s3.cap
  clear s0 s1 s3
  subst e0; subst e1; subst e3
  have HT := Lib.hid hT
  clear hT
  obtain ⟨W0, hW0⟩ : ∃ W, W = w.alloc (.cells (stcC A0 l0.length c0 A1 l1.length c1 (F : Int) A3 l3.length c3).toArray 40) := ⟨_, rfl⟩
  have b0 : Bl W0 w.heap.size (stcC A0 l0.length c0 A1 l1.length c1 (F : Int) A3 l3.length c3) 40 := by rw [hW0]; exact Bl.new _ _ _
  have hb0 : Below w.heap.size w W0 := by rw [hW0]; exact (Below.refl _ w).alloc (Nat.le_refl _) _
  have HW0 : Hid (w.alloc (.cells #[.slice A0 l0.length c0, .slice A1 l1.length c1, .int .u32 (F : Int), .slice A3 l3.length c3] 40) = W0) := hW0.symm
  clear hW0
  obtain ⟨q0, q1, q2, q3⟩ := stc_cells b0
  by_cases hbig : 4000 < l3.length
  · have hd : decide (4000 < (l3.length : Int)) = true := by simp; omega
    clear hbig
    go_enter Tryd.func7, Tryd.ntmps7
    go_wp2_with (go_at_call 11; rw [HW0.out]; refine (awake5_any _ (HT.out.next hb0)).mono ?_; rintro e w' ⟨rfl, hb⟩)
    go_ret
    exact ⟨rfl, next hb0 hb⟩
  · have hd : decide (4000 < (l3.length : Int)) = false := by simp; omega
    have hl3 : l3.length ≤ 4000 := by omega
    clear hbig
    obtain ⟨S, hSd⟩ : ∃ S : World → Prop, S = fun w' => w'.cell? ⟨w.heap.size, 0, none⟩ = some (.slice A0 l0.length c0) ∧ w'.cell? ⟨w.heap.size, 1, none⟩ = some (.slice A1 l1.length c1) ∧ w'.cell? ⟨w.heap.size, 2, none⟩ = some (.int .u32 (F : Int)) ∧ w'.cell? ⟨w.heap.size, 3, none⟩ = some (.slice A3 l3.length c3) := ⟨_, rfl⟩
    have HSI : Hid (∀ w', Below W0.heap.size W0 w' → S w') := by unfold Hid; intro w' hb; rw [hSd]; exact stc_cells (b0.next hb)
    have HS0 : Hid (∀ w', S w' → w'.cell? ⟨w.heap.size, 0, none⟩ = some (.slice A0 l0.length c0)) := by unfold Hid; intro w' h; rw [hSd] at h; exact h.1
    have HS1 : Hid (∀ w', S w' → w'.cell? ⟨w.heap.size, 1, none⟩ = some (.slice A1 l1.length c1)) := by unfold Hid; intro w' h; rw [hSd] at h; exact h.2.1
    have HS2 : Hid (∀ w', S w' → w'.cell? ⟨w.heap.size, 2, none⟩ = some (.int .u32 (F : Int))) := by unfold Hid; intro w' h; rw [hSd] at h; exact h.2.2.1
    have HS3 : Hid (∀ w', S w' → w'.cell? ⟨w.heap.size, 3, none⟩ = some (.slice A3 l3.length c3)) := by unfold Hid; intro w' h; rw [hSd] at h; exact h.2.2.2
    clear hSd
    have HB0 := Lib.hid b0
    clear b0
    obtain ⟨E, hE⟩ : ∃ E, E = mixE l0 l1 F l3 := ⟨_, rfl⟩
    obtain ⟨L, hL⟩ : ∃ L, L = mixR l0 l1 F l3 := ⟨_, rfl⟩
    obtain ⟨en, hen⟩ : ∃ e, e = to_ % (l3.length + 1) := ⟨_, rfl⟩
    obtain ⟨ev, hev⟩ : ∃ e, e = en / 64 + 1 := ⟨_, rfl⟩
    obtain ⟨k, hk⟩ : ∃ k, k = at_ % ev := ⟨_, rfl⟩
    have henl : en ≤ l3.length := by rw [hen]; have := Nat.mod_lt to_ (show 0 < l3.length + 1 by omega); omega
    have hkl : k * 64 ≤ en := by
      have h1 : k < ev := by rw [hk]; exact Nat.mod_lt at_ (by omega)
      have h2 : en / 64 * 64 ≤ en := Nat.div_mul_le_self en 64
      omega
    have HC : Hid ((E = 0 ∧ L.length = l3.length) ∨ (E ≠ 0 ∧ L = [])) := by
      unfold Hid
      by_cases h : mixE l0 l1 F l3 = 0
      · obtain ⟨h1, h2, h3⟩ := mix_twice l0 l1 F l3 h
        rw [hE, hL]; exact .inl ⟨h, h1⟩
      · rw [hE, hL]; exact .inr ⟨h, mix_bad _ _ _ _ h⟩
    have HP : Hid (E = 0 → k * 64 < en → F + k < 4294967296 ∧ mixE l0 l1 (F + k) ((l3.drop (k * 64)).take (en - k * 64)) = 0 ∧ mixR l0 l1 (F + k) ((l3.drop (k * 64)).take (en - k * 64)) = (L.drop (k * 64)).take (en - k * 64)) := by
      unfold Hid
      intro h0 hk0
      rw [hL]
      exact mix_part l0 l1 F l3 k en (by rw [← hE]; exact h0) henl hk0
    have m1 : (to_ : Int) % ((l3.length : Int) + 1) = (en : Int) := by rw [hen, Int.natCast_emod, Int.natCast_add]; rfl
    have m1' : (to_ : Int).tmod ((l3.length : Int) + 1) = (en : Int) := by rw [Int.tmod_eq_emod_of_nonneg (by omega)]; exact m1
    have m2 : (en : Int) / 64 + 1 = (ev : Int) := by omega
    have m3 : (at_ : Int) % (ev : Int) = (k : Int) := by rw [hk, Int.natCast_emod]
    have m3' : (at_ : Int).tmod (ev : Int) = (k : Int) := by rw [Int.tmod_eq_emod_of_nonneg (by omega)]; exact m3
    have hevp : 0 < ev := by omega
    have hevb : ev ≤ 100 := by omega
    have HE := Lib.hid hE
    have HL := Lib.hid hL
    clear hE hL hen hev hk
    go_enter Tryd.func7, Tryd.ntmps7
    go_wp2_with fail
    rw [HW0.out]
    clear q0 q1 q2 q3
    have hbd : Below W0.heap.size W0 W0.drew := (Below.refl _ W0).drew
    have hS := HSI.out _ hbd
    refine wp_region_held_drew (S := S) (by kernel_rfl) hS (fun _ => ?_)
    refine wpAnyH_take (i := 0) (v := (.pointer (some ⟨w.heap.size, 0, none⟩))) rfl (by kernel_rfl) (by kernel_rfl) (by kernel_rfl) (fun _ _ _ h => h) (Or.inl ⟨by rfl, fun _ hSw => by go_simp⟩) hS ?_
    simp only [List.getElem_toArray, List.getElem_cons_succ, List.getElem_cons_zero, Act.put, List.setIfInBounds_toArray, List.set_cons_zero, List.set_cons_succ]
    refine wpAnyH_take (i := 1) (v := .slice A0 l0.length c0) rfl (by kernel_rfl) (by kernel_rfl) (by kernel_rfl) (fun _ _ _ h => h) (Or.inl ⟨by rfl, fun w' hSw => by have hq := HS0.out w' hSw; go_simp⟩) hS ?_
    simp only [List.getElem_toArray, List.getElem_cons_succ, List.getElem_cons_zero, Act.put, List.setIfInBounds_toArray, List.set_cons_zero, List.set_cons_succ]
    refine wpAnyH_take (i := 3) (v := (.pointer (some ⟨w.heap.size, 1, none⟩))) rfl (by kernel_rfl) (by kernel_rfl) (by kernel_rfl) (fun _ _ _ h => h) (Or.inl ⟨by rfl, fun _ hSw => by go_simp⟩) hS ?_
    simp only [List.getElem_toArray, List.getElem_cons_succ, List.getElem_cons_zero, Act.put, List.setIfInBounds_toArray, List.set_cons_zero, List.set_cons_succ]
    refine wpAnyH_take (i := 4) (v := .slice A1 l1.length c1) rfl (by kernel_rfl) (by kernel_rfl) (by kernel_rfl) (fun _ _ _ h => h) (Or.inl ⟨by rfl, fun w' hSw => by have hq := HS1.out w' hSw; go_simp⟩) hS ?_
    simp only [List.getElem_toArray, List.getElem_cons_succ, List.getElem_cons_zero, Act.put, List.setIfInBounds_toArray, List.set_cons_zero, List.set_cons_succ]
    refine wpAnyH_take (i := 6) (v := (.pointer (some ⟨w.heap.size, 2, none⟩))) rfl (by kernel_rfl) (by kernel_rfl) (by kernel_rfl) (fun _ _ _ h => h) (Or.inl ⟨by rfl, fun _ hSw => by go_simp⟩) hS ?_
    simp only [List.getElem_toArray, List.getElem_cons_succ, List.getElem_cons_zero, Act.put, List.setIfInBounds_toArray, List.set_cons_zero, List.set_cons_succ]
    refine wpAnyH_take (i := 7) (v := .int .u32 (F : Int)) rfl (by kernel_rfl) (by kernel_rfl) (by kernel_rfl) (fun _ _ _ h => h) (Or.inl ⟨by rfl, fun w' hSw => by have hq := HS2.out w' hSw; go_simp⟩) hS ?_
    simp only [List.getElem_toArray, List.getElem_cons_succ, List.getElem_cons_zero, Act.put, List.setIfInBounds_toArray, List.set_cons_zero, List.set_cons_succ]
    refine wpAnyH_take (i := 8) (v := (.pointer (some ⟨w.heap.size, 3, none⟩))) rfl (by kernel_rfl) (by kernel_rfl) (by kernel_rfl) (fun _ _ _ h => h) (Or.inl ⟨by rfl, fun _ hSw => by go_simp⟩) hS ?_
    simp only [List.getElem_toArray, List.getElem_cons_succ, List.getElem_cons_zero, Act.put, List.setIfInBounds_toArray, List.set_cons_zero, List.set_cons_succ]
    refine wpAnyH_take (i := 9) (v := .slice A3 l3.length c3) rfl (by kernel_rfl) (by kernel_rfl) (by kernel_rfl) (fun _ _ _ h => h) (Or.inl ⟨by rfl, fun w' hSw => by have hq := HS3.out w' hSw; go_simp⟩) hS ?_
    simp only [List.getElem_toArray, List.getElem_cons_succ, List.getElem_cons_zero, Act.put, List.setIfInBounds_toArray, List.set_cons_zero, List.set_cons_succ]
    refine wpAnyH_ready (rs := [2]) (by kernel_rfl) (by simp) (AllReadyH.cons rfl (fun K hK => ?_) AllReadyH.nil)
    simp only [List.getElem_toArray, List.getElem_cons_succ, List.getElem_cons_zero, Act.put, List.setIfInBounds_toArray, List.set_cons_zero, List.set_cons_succ]
    go_simp
    refine (own_any l0 _ _ _ _ _ (y0.nx (next hb0 hbd)) z0 (by omega) (Nat.le_refl _)).mono ?_
    rintro e w2 ⟨X0, d0, rfl, h2⟩
    have hb2 := next hbd h2.below
    have x0 := h2.sl
    have f0 := h2.none_
    have g0 := own_cap h2.own
    replace hS := HSI.out _ hb2
    refine hK.out _ _ hS (fun _ => ?_)
    clear hK K h2 hbd
    refine wpAnyH_ready (rs := [5]) (by kernel_rfl) (by simp) (AllReadyH.cons rfl (fun K hK => ?_) AllReadyH.nil)
    simp only [List.getElem_toArray, List.getElem_cons_succ, List.getElem_cons_zero, Act.put, List.setIfInBounds_toArray, List.set_cons_zero, List.set_cons_succ]
    go_simp
    refine (own_any l1 _ _ _ _ _ (y1.nx (next hb0 hb2)) z1 (by omega) (Nat.le_refl _)).mono ?_
    rintro e w3 ⟨X1, d1, rfl, h3⟩
    have hb3 := next hb2 h3.below
    replace x0 := x0.nx h3.below
    have x1 := h3.sl
    have f1 := h3.none_
    have g1 := own_cap h3.own
    replace hS := HSI.out _ hb3
    refine hK.out _ _ hS (fun _ => ?_)
    clear hK K h3 hb2
    refine wpAnyH_ready (rs := [10]) (by kernel_rfl) (by simp) (AllReadyH.cons rfl (fun K hK => ?_) AllReadyH.nil)
    simp only [List.getElem_toArray, List.getElem_cons_succ, List.getElem_cons_zero, Act.put, List.setIfInBounds_toArray, List.set_cons_zero, List.set_cons_succ]
    go_simp
    refine (own_any l3 _ _ _ _ _ (y3.nx (next hb0 hb3)) z3 (by omega) (Nat.le_refl _)).mono ?_
    rintro e w4 ⟨X3, d3, rfl, h4⟩
    have hb4 := next hb3 h4.below
    replace x0 := x0.nx h4.below
    replace x1 := x1.nx h4.below
    have x3 := h4.sl
    have f3 := h4.none_
    have g3 := own_cap h4.own
    replace hS := HSI.out _ hb4
    refine hK.out _ _ hS (fun _ => ?_)
    clear hK K h4 hb3
    refine wpAnyH_ready (rs := [11]) (by kernel_rfl) (by simp) (AllReadyH.cons rfl (fun K hK => ?_) AllReadyH.nil)
    simp only [List.getElem_toArray, List.getElem_cons_succ, List.getElem_cons_zero, Act.put, List.setIfInBounds_toArray, List.set_cons_zero, List.set_cons_succ]
    go_simp
    refine (mix_any l0 l1 l3 F _ _ _ _ _ _ _ _ _ _ hF x0 x1 x3 g0 g1 g3 f0 f1 f3 (by omega) (HT.out.next (next hb0 hb4))).mono ?_
    rintro e w5 ⟨X5, n5, d5, rfl, h5⟩
    rw [← HE.out]
    rw [← HL.out] at h5
    have hb5 := next hb4 h5.below
    have x5 := h5.sl
    have f5 := h5.none_
    have g5 := h5.cap
    have e5 := h5.len
    subst e5
    replace hS := HSI.out _ hb5
    refine hK.out _ _ hS (fun _ => ?_)
    clear hK K h5 hb4 x0 x1 x3 f0 f1 f3 g0 g1 g3
    refine wpAnyH_take (i := 12) (v := (.tuple #[.slice X5 L.length d5, .int .i64 E])) rfl (by kernel_rfl) (by kernel_rfl) (by kernel_rfl) (fun _ _ _ h => h) (Or.inl ⟨by rfl, fun _ hSw => by go_simp⟩) hS ?_
    simp only [List.getElem_toArray, List.getElem_cons_succ, List.getElem_cons_zero, Act.put, List.setIfInBounds_toArray, List.set_cons_zero, List.set_cons_succ]
    refine wpAnyH_take (i := 13) (v := (.slice X5 L.length d5)) rfl (by kernel_rfl) (by kernel_rfl) (by kernel_rfl) (fun _ _ _ h => h) (Or.inl ⟨by rfl, fun _ hSw => by go_simp⟩) hS ?_
    simp only [List.getElem_toArray, List.getElem_cons_succ, List.getElem_cons_zero, Act.put, List.setIfInBounds_toArray, List.set_cons_zero, List.set_cons_succ]
    refine wpAnyH_take (i := 14) (v := (.int .i64 E)) rfl (by kernel_rfl) (by kernel_rfl) (by kernel_rfl) (fun _ _ _ h => h) (Or.inl ⟨by rfl, fun _ hSw => by go_simp⟩) hS ?_
    simp only [List.getElem_toArray, List.getElem_cons_succ, List.getElem_cons_zero, Act.put, List.setIfInBounds_toArray, List.set_cons_zero, List.set_cons_succ]
    refine wpAnyH_take (i := 15) (v := (.slice X5 L.length d5)) rfl (by kernel_rfl) (by kernel_rfl) (by kernel_rfl) (fun _ _ _ h => h) (Or.inl ⟨by rfl, fun _ hSw => by go_simp⟩) hS ?_
    simp only [List.getElem_toArray, List.getElem_cons_succ, List.getElem_cons_zero, Act.put, List.setIfInBounds_toArray, List.set_cons_zero, List.set_cons_succ]
    refine wpAnyH_take (i := 16) (v := (.int .i64 E)) rfl (by kernel_rfl) (by kernel_rfl) (by kernel_rfl) (fun _ _ _ h => h) (Or.inl ⟨by rfl, fun _ hSw => by go_simp⟩) hS ?_
    simp only [List.getElem_toArray, List.getElem_cons_succ, List.getElem_cons_zero, Act.put, List.setIfInBounds_toArray, List.set_cons_zero, List.set_cons_succ]
    refine wpAnyH_done (by kernel_rfl) ?_ _
    obtain ⟨q0, q1, q2, q3⟩ := stc_cells (HB0.out.next hb5)
    rcases HC.out with ⟨hE0, hLl⟩ | ⟨hE0, hL0⟩
    · have hne : (E != 0) = false := by rw [hE0]; rfl
      have HLL := Lib.hid hLl
      have hlne : ((L.length : Int) != (l3.length : Int)) = false := by rw [hLl]; simp
      have HE0 := Lib.hid hE0
      have hnz1 : ¬ (l3.length : Int) + 1 = 0 := by omega
      have hnz2 : ¬ (ev : Int) = 0 := by omega
      clear hE0 hLl
      by_cases hend : k * 64 = en
      · have hq : ((k : Int) * 64 == (en : Int)) = true := by simp; omega
        have hb6 := next hb0 hb5
        clear HSI HS0 HS1 HS2 HS3
        go_wp2_with fail
        refine (awake5_any _ (HT.out.next hb6)).mono ?_
        rintro e w9 ⟨rfl, hb9⟩
        go_wp2
        go_ret
        exact ⟨rfl, next hb6 hb9⟩
      · have hq : ((k : Int) * 64 == (en : Int)) = false := by simp; omega
        obtain ⟨hN0, hPE, hPR⟩ := HP.out HE0.out (by omega)
        obtain ⟨N, hNd⟩ : ∃ N, N = F + k := ⟨_, rfl⟩
        obtain ⟨Bp, hBp⟩ : ∃ B, B = (l3.drop (k * 64)).take (en - k * 64) := ⟨_, rfl⟩
        obtain ⟨Lp, hLp⟩ : ∃ B, B = (L.drop (k * 64)).take (en - k * 64) := ⟨_, rfl⟩
        rw [← hNd, ← hBp] at hPE hPR
        rw [← hLp] at hPR
        have hN : N < 4294967296 := by omega
        have eN : IntKind.u32.wrap ((F : Int) + (k : Int)) = (N : Int) := by rw [IntKind.wrap_u32]; omega
        have eN2 : (F : Int) + (k : Int) = (N : Int) := by omega
        have HPE := Lib.hid hPE
        have HPR := Lib.hid hPR
        have HBp := Lib.hid hBp
        have HLp := Lib.hid hLp
        obtain ⟨A', hA'⟩ : ∃ A', A' = if c3 = k * 64 then A3 else A3.map (·.add (k * 64)) := ⟨_, rfl⟩
        have HA' := Lib.hid hA'
        have hkb : k ≤ 100 := by omega
        obtain ⟨AL, hAL⟩ : ∃ A', A' = if d5 = k * 64 then X5 else X5.map (·.add (k * 64)) := ⟨_, rfl⟩
        have HAL := Lib.hid hAL
        clear hAL
        clear hPE hPR hBp hLp hA' hend hN0 hNd
        go_wp2_with fail
        clear q0 q1 q2 q3 m1 m1' m2 m3 m3'
        have hbd : Below W0.heap.size W0 w5.drew := hb5.drew
        have hS := HSI.out _ hbd
        replace x5 : Sl w5.drew w5.drew.heap.size X5 L.length (cb L) := x5
        refine wp_region_held_drew (S := S) (by kernel_rfl) hS (fun _ => ?_)
        refine wpAnyH_take (i := 0) (v := (.pointer (some ⟨w.heap.size, 0, none⟩))) rfl (by kernel_rfl) (by kernel_rfl) (by kernel_rfl) (fun _ _ _ h => h) (Or.inl ⟨by rfl, fun _ hSw => by go_simp⟩) hS ?_
        simp only [List.getElem_toArray, List.getElem_cons_succ, List.getElem_cons_zero, Act.put, List.setIfInBounds_toArray, List.set_cons_zero, List.set_cons_succ]
        refine wpAnyH_take (i := 1) (v := .slice A0 l0.length c0) rfl (by kernel_rfl) (by kernel_rfl) (by kernel_rfl) (fun _ _ _ h => h) (Or.inl ⟨by rfl, fun w' hSw => by have hq := HS0.out w' hSw; go_simp⟩) hS ?_
        simp only [List.getElem_toArray, List.getElem_cons_succ, List.getElem_cons_zero, Act.put, List.setIfInBounds_toArray, List.set_cons_zero, List.set_cons_succ]
        refine wpAnyH_take (i := 3) (v := (.pointer (some ⟨w.heap.size, 1, none⟩))) rfl (by kernel_rfl) (by kernel_rfl) (by kernel_rfl) (fun _ _ _ h => h) (Or.inl ⟨by rfl, fun _ hSw => by go_simp⟩) hS ?_
        simp only [List.getElem_toArray, List.getElem_cons_succ, List.getElem_cons_zero, Act.put, List.setIfInBounds_toArray, List.set_cons_zero, List.set_cons_succ]
        refine wpAnyH_take (i := 4) (v := .slice A1 l1.length c1) rfl (by kernel_rfl) (by kernel_rfl) (by kernel_rfl) (fun _ _ _ h => h) (Or.inl ⟨by rfl, fun w' hSw => by have hq := HS1.out w' hSw; go_simp⟩) hS ?_
        simp only [List.getElem_toArray, List.getElem_cons_succ, List.getElem_cons_zero, Act.put, List.setIfInBounds_toArray, List.set_cons_zero, List.set_cons_succ]
        refine wpAnyH_take (i := 6) (v := (.pointer (some ⟨w.heap.size, 2, none⟩))) rfl (by kernel_rfl) (by kernel_rfl) (by kernel_rfl) (fun _ _ _ h => h) (Or.inl ⟨by rfl, fun _ hSw => by go_simp⟩) hS ?_
        simp only [List.getElem_toArray, List.getElem_cons_succ, List.getElem_cons_zero, Act.put, List.setIfInBounds_toArray, List.set_cons_zero, List.set_cons_succ]
        refine wpAnyH_take (i := 7) (v := .int .u32 (F : Int)) rfl (by kernel_rfl) (by kernel_rfl) (by kernel_rfl) (fun _ _ _ h => h) (Or.inl ⟨by rfl, fun w' hSw => by have hq := HS2.out w' hSw; go_simp⟩) hS ?_
        simp only [List.getElem_toArray, List.getElem_cons_succ, List.getElem_cons_zero, Act.put, List.setIfInBounds_toArray, List.set_cons_zero, List.set_cons_succ]
        refine wpAnyH_take (i := 8) (v := (.int .i64 (k : Int))) rfl (by kernel_rfl) (by kernel_rfl) (by kernel_rfl) (fun _ _ _ h => h) (Or.inl ⟨by rfl, fun _ hSw => by go_simp⟩) hS ?_
        simp only [List.getElem_toArray, List.getElem_cons_succ, List.getElem_cons_zero, Act.put, List.setIfInBounds_toArray, List.set_cons_zero, List.set_cons_succ]
        refine wpAnyH_take (i := 9) (v := (.int .u32 (k : Int))) rfl (by kernel_rfl) (by kernel_rfl) (by kernel_rfl) (fun _ _ _ h => h) (Or.inl ⟨by rfl, fun _ hSw => by go_simp; rw [IntKind.wrap_u32]; omega⟩) hS ?_
        simp only [List.getElem_toArray, List.getElem_cons_succ, List.getElem_cons_zero, Act.put, List.setIfInBounds_toArray, List.set_cons_zero, List.set_cons_succ]
        refine wpAnyH_take (i := 10) (v := (.int .u32 (N : Int))) rfl (by kernel_rfl) (by kernel_rfl) (by kernel_rfl) (fun _ _ _ h => h) (Or.inl ⟨by rfl, fun _ hSw => by go_simp; rw [IntKind.wrap_u32]; omega⟩) hS ?_
        simp only [List.getElem_toArray, List.getElem_cons_succ, List.getElem_cons_zero, Act.put, List.setIfInBounds_toArray, List.set_cons_zero, List.set_cons_succ]
        refine wpAnyH_take (i := 11) (v := (.pointer (some ⟨w.heap.size, 3, none⟩))) rfl (by kernel_rfl) (by kernel_rfl) (by kernel_rfl) (fun _ _ _ h => h) (Or.inl ⟨by rfl, fun _ hSw => by go_simp⟩) hS ?_
        simp only [List.getElem_toArray, List.getElem_cons_succ, List.getElem_cons_zero, Act.put, List.setIfInBounds_toArray, List.set_cons_zero, List.set_cons_succ]
        refine wpAnyH_take (i := 12) (v := .slice A3 l3.length c3) rfl (by kernel_rfl) (by kernel_rfl) (by kernel_rfl) (fun _ _ _ h => h) (Or.inl ⟨by rfl, fun w' hSw => by have hq := HS3.out w' hSw; go_simp⟩) hS ?_
        simp only [List.getElem_toArray, List.getElem_cons_succ, List.getElem_cons_zero, Act.put, List.setIfInBounds_toArray, List.set_cons_zero, List.set_cons_succ]
        refine wpAnyH_take (i := 13) (v := (.int .i64 (k : Int))) rfl (by kernel_rfl) (by kernel_rfl) (by kernel_rfl) (fun _ _ _ h => h) (Or.inl ⟨by rfl, fun _ hSw => by go_simp⟩) hS ?_
        simp only [List.getElem_toArray, List.getElem_cons_succ, List.getElem_cons_zero, Act.put, List.setIfInBounds_toArray, List.set_cons_zero, List.set_cons_succ]
        refine wpAnyH_take (i := 14) (v := (.int .i64 ((k : Int) * 64))) rfl (by kernel_rfl) (by kernel_rfl) (by kernel_rfl) (fun _ _ _ h => h) (Or.inl ⟨by rfl, fun _ hSw => by go_simp; exact IntWalk.i64_in _ (by omega)⟩) hS ?_
        simp only [List.getElem_toArray, List.getElem_cons_succ, List.getElem_cons_zero, Act.put, List.setIfInBounds_toArray, List.set_cons_zero, List.set_cons_succ]
        refine wpAnyH_take (i := 15) (v := (.int .i64 (en : Int))) rfl (by kernel_rfl) (by kernel_rfl) (by kernel_rfl) (fun _ _ _ h => h) (Or.inl ⟨by rfl, fun _ hSw => by go_simp⟩) hS ?_
        simp only [List.getElem_toArray, List.getElem_cons_succ, List.getElem_cons_zero, Act.put, List.setIfInBounds_toArray, List.set_cons_zero, List.set_cons_succ]
        refine wpAnyH_take (i := 16) (v := .slice A' (en - k * 64) (c3 - k * 64)) rfl (by kernel_rfl) (by kernel_rfl) (by kernel_rfl) (fun _ _ _ h => h) (Or.inl ⟨by rfl, fun w' _ => exec_slice_lh w' 22 5 _ _ _ rfl Tryd.underlying22 u8_size A3 l3.length c3 (k * 64) en .i64 .i64 _ _ rfl rfl rfl (by omega) rfl (by omega) (by omega) z3 _ HA'.out⟩) hS ?_
        simp only [List.getElem_toArray, List.getElem_cons_succ, List.getElem_cons_zero, Act.put, List.setIfInBounds_toArray, List.set_cons_zero, List.set_cons_succ]
        refine wpAnyH_ready (rs := [2]) (by kernel_rfl) (by simp) (AllReadyH.cons rfl (fun K hK => ?_) AllReadyH.nil)
        simp only [List.getElem_toArray, List.getElem_cons_succ, List.getElem_cons_zero, Act.put, List.setIfInBounds_toArray, List.set_cons_zero, List.set_cons_succ]
        go_simp
        refine (own_any l0 _ _ _ _ _ (y0.nx (next hb0 hbd)) z0 (by omega) (Nat.le_refl _)).mono ?_
        rintro e w2b ⟨X0b, d0b, rfl, h2⟩
        have hb2 := next hbd h2.below
        have x0 := h2.sl
        have f0 := h2.none_
        have g0 := own_cap h2.own
        replace x5 := x5.nx h2.below
        replace hS := HSI.out _ hb2
        refine hK.out _ _ hS (fun _ => ?_)
        clear hK K h2 hbd
        refine wpAnyH_ready (rs := [5]) (by kernel_rfl) (by simp) (AllReadyH.cons rfl (fun K hK => ?_) AllReadyH.nil)
        simp only [List.getElem_toArray, List.getElem_cons_succ, List.getElem_cons_zero, Act.put, List.setIfInBounds_toArray, List.set_cons_zero, List.set_cons_succ]
        go_simp
        refine (own_any l1 _ _ _ _ _ (y1.nx (next hb0 hb2)) z1 (by omega) (Nat.le_refl _)).mono ?_
        rintro e w3b ⟨X1b, d1b, rfl, h3⟩
        have hb3 := next hb2 h3.below
        replace x0 := x0.nx h3.below
        have x1 := h3.sl
        have f1 := h3.none_
        have g1 := own_cap h3.own
        replace x5 := x5.nx h3.below
        replace hS := HSI.out _ hb3
        refine hK.out _ _ hS (fun _ => ?_)
        clear hK K h3 hb2
        have hsb : Sl w3b w3b.heap.size A' (en - k * 64) (cb Bp) := by
          have := sl_mid (l := k * 64) (h := en) (y3.nx (next hb0 hb3)) hkl henl k3
          rw [← HA'.out, ← cb_slice, ← HBp.out] at this
          exact this
        have hnA : A' = none → c3 - k * 64 = 0 := by
          rw [HA'.out]
          split
          · intro h; rw [z3 h]; omega
          · intro h
            cases hA3 : A3 with
            | none => rw [z3 hA3]; omega
            | some a => rw [hA3] at h; cases h
        refine wpAnyH_ready (rs := [17]) (by kernel_rfl) (by simp) (AllReadyH.cons rfl (fun K hK => ?_) AllReadyH.nil)
        simp only [List.getElem_toArray, List.getElem_cons_succ, List.getElem_cons_zero, Act.put, List.setIfInBounds_toArray, List.set_cons_zero, List.set_cons_succ]
        go_simp
        refine (own_any Bp _ _ _ _ _ hsb hnA (by omega) (Nat.le_refl _)).mono ?_
        rintro e w4b ⟨X3b, d3b, rfl, h4⟩
        have hb4 := next hb3 h4.below
        replace x0 := x0.nx h4.below
        replace x1 := x1.nx h4.below
        have x3 := h4.sl
        have f3 := h4.none_
        have g3 := own_cap h4.own
        replace x5 := x5.nx h4.below
        replace hS := HSI.out _ hb4
        refine hK.out _ _ hS (fun _ => ?_)
        clear hK K h4 hb3 hsb hnA
        refine wpAnyH_ready (rs := [18]) (by kernel_rfl) (by simp) (AllReadyH.cons rfl (fun K hK => ?_) AllReadyH.nil)
        simp only [List.getElem_toArray, List.getElem_cons_succ, List.getElem_cons_zero, Act.put, List.setIfInBounds_toArray, List.set_cons_zero, List.set_cons_succ]
        go_simp
        refine (mix_any l0 l1 Bp N _ _ _ _ _ _ _ _ _ _ hN x0 x1 x3 g0 g1 g3 f0 f1 f3 (by omega) (HT.out.next (next hb0 hb4))).mono ?_
        rintro e w5b ⟨X6, n6, d6, rfl, h6⟩
        rw [HPE.out]
        rw [HPR.out] at h6
        have hb6 := next hb4 h6.below
        have x6 := h6.sl
        replace x5 := x5.nx h6.below
        replace hS := HSI.out _ hb6
        refine hK.out _ _ hS (fun _ => ?_)
        clear hK K h6 hb4 x0 x1 x3 f0 f1 f3 g0 g1 g3 hb5
        refine wpAnyH_take (i := 19) (v := (.tuple #[.slice X6 n6 d6, .int .i64 0])) rfl (by kernel_rfl) (by kernel_rfl) (by kernel_rfl) (fun _ _ _ h => h) (Or.inl ⟨by rfl, fun _ hSw => by go_simp⟩) hS ?_
        simp only [List.getElem_toArray, List.getElem_cons_succ, List.getElem_cons_zero, Act.put, List.setIfInBounds_toArray, List.set_cons_zero, List.set_cons_succ]
        refine wpAnyH_take (i := 20) (v := (.slice X6 n6 d6)) rfl (by kernel_rfl) (by kernel_rfl) (by kernel_rfl) (fun _ _ _ h => h) (Or.inl ⟨by rfl, fun _ hSw => by go_simp⟩) hS ?_
        simp only [List.getElem_toArray, List.getElem_cons_succ, List.getElem_cons_zero, Act.put, List.setIfInBounds_toArray, List.set_cons_zero, List.set_cons_succ]
        refine wpAnyH_take (i := 21) (v := (.int .i64 0)) rfl (by kernel_rfl) (by kernel_rfl) (by kernel_rfl) (fun _ _ _ h => h) (Or.inl ⟨by rfl, fun _ hSw => by go_simp⟩) hS ?_
        simp only [List.getElem_toArray, List.getElem_cons_succ, List.getElem_cons_zero, Act.put, List.setIfInBounds_toArray, List.set_cons_zero, List.set_cons_succ]
        refine wpAnyH_take (i := 22) (v := (.slice X6 n6 d6)) rfl (by kernel_rfl) (by kernel_rfl) (by kernel_rfl) (fun _ _ _ h => h) (Or.inl ⟨by rfl, fun _ hSw => by go_simp⟩) hS ?_
        simp only [List.getElem_toArray, List.getElem_cons_succ, List.getElem_cons_zero, Act.put, List.setIfInBounds_toArray, List.set_cons_zero, List.set_cons_succ]
        refine wpAnyH_take (i := 23) (v := (.int .i64 0)) rfl (by kernel_rfl) (by kernel_rfl) (by kernel_rfl) (fun _ _ _ h => h) (Or.inl ⟨by rfl, fun _ hSw => by go_simp⟩) hS ?_
        simp only [List.getElem_toArray, List.getElem_cons_succ, List.getElem_cons_zero, Act.put, List.setIfInBounds_toArray, List.set_cons_zero, List.set_cons_succ]
        refine wpAnyH_done (by kernel_rfl) ?_ _
        have hb7 := next hb0 hb6
        clear hS HSI HS0 HS1 HS2 HS3
        have hLl2 : L.length = l3.length := HLL.out
        have HLL2 := Lib.hid hLl2
        have hsL : Sl w5b w5b.heap.size AL (en - k * 64) (cb Lp) := by
          have := sl_mid (l := k * 64) (h := en) x5 hkl (by omega) g5
          rw [← HAL.out, ← cb_slice, ← HLp.out] at this
          exact this
        obtain ⟨S, hSd⟩ : ∃ S : World → Prop, S = fun w' => (convert 22 9 (.slice X6 n6 d6)).run Tryd.prog w' = .ok (.string ⟨Lp.toArray⟩) w' ∧ (convert 22 9 (.slice AL (en - k * 64) (d5 - k * 64))).run Tryd.prog w' = .ok (.string ⟨Lp.toArray⟩) w' := ⟨_, rfl⟩
        have HSI : Hid (∀ w', Below w5b.heap.size w5b w' → S w') := by unfold Hid; intro w' hb; rw [hSd]; exact ⟨u8_str (x6.nx hb) _, u8_str (hsL.nx hb) _⟩
        have HS1 : Hid (∀ w', S w' → (convert 22 9 (.slice X6 n6 d6)).run Tryd.prog w' = .ok (.string ⟨Lp.toArray⟩) w') := by unfold Hid; intro w' h; rw [hSd] at h; exact h.1
        have HS2 : Hid (∀ w', S w' → (convert 22 9 (.slice AL (en - k * 64) (d5 - k * 64))).run Tryd.prog w' = .ok (.string ⟨Lp.toArray⟩) w') := by unfold Hid; intro w' h; rw [hSd] at h; exact h.2
        clear hSd hsL x6 x5 hLl2
        go_wp2_with fail
        have hbd : Below w5b.heap.size w5b w5b.drew := (Below.refl _ w5b).drew
        have hS := HSI.out _ hbd
        refine wp_region_held_drew (S := S) (by kernel_rfl) hS (fun _ => ?_)
        refine wpAnyH_take (i := 0) (v := (.int .i64 0)) rfl (by kernel_rfl) (by kernel_rfl) (by kernel_rfl) (fun _ _ _ h => h) (Or.inl ⟨by rfl, fun _ hSw => by go_simp⟩) hS ?_
        simp only [List.getElem_toArray, List.getElem_cons_succ, List.getElem_cons_zero, Act.put, List.setIfInBounds_toArray, List.set_cons_zero, List.set_cons_succ]
        refine wpAnyH_take (i := 1) (v := (.bool true)) rfl (by kernel_rfl) (by kernel_rfl) (by kernel_rfl) (fun _ _ _ h => h) (Or.inl ⟨by rfl, fun _ hSw => by go_simp⟩) hS ?_
        simp only [List.getElem_toArray, List.getElem_cons_succ, List.getElem_cons_zero, Act.put, List.setIfInBounds_toArray, List.set_cons_zero, List.set_cons_succ]
        refine wpAnyH_take (i := 2) (v := (.bool true)) rfl (by kernel_rfl) (by kernel_rfl) (by kernel_rfl) (fun _ _ _ h => h) (Or.inl ⟨by rfl, fun _ hSw => by go_simp⟩) hS ?_
        simp only [List.getElem_toArray, List.getElem_cons_succ, List.getElem_cons_zero, Act.put, List.setIfInBounds_toArray, List.set_cons_zero, List.set_cons_succ]
        refine wpAnyH_take (i := 3) (v := (.slice X6 n6 d6)) rfl (by kernel_rfl) (by kernel_rfl) (by kernel_rfl) (fun _ _ _ h => h) (Or.inl ⟨by rfl, fun _ hSw => by go_simp⟩) hS ?_
        simp only [List.getElem_toArray, List.getElem_cons_succ, List.getElem_cons_zero, Act.put, List.setIfInBounds_toArray, List.set_cons_zero, List.set_cons_succ]
        refine wpAnyH_take (i := 4) (v := .string ⟨Lp.toArray⟩) rfl (by kernel_rfl) (by kernel_rfl) (by kernel_rfl) (fun _ _ _ h => h) (Or.inl ⟨by rfl, fun w' hw' => exec_convert w' _ _ _ rfl _ _ rfl (HS1.out w' hw')⟩) hS ?_
        simp only [List.getElem_toArray, List.getElem_cons_succ, List.getElem_cons_zero, Act.put, List.setIfInBounds_toArray, List.set_cons_zero, List.set_cons_succ]
        refine wpAnyH_take (i := 5) (v := (.slice X5 L.length d5)) rfl (by kernel_rfl) (by kernel_rfl) (by kernel_rfl) (fun _ _ _ h => h) (Or.inl ⟨by rfl, fun _ hSw => by go_simp⟩) hS ?_
        simp only [List.getElem_toArray, List.getElem_cons_succ, List.getElem_cons_zero, Act.put, List.setIfInBounds_toArray, List.set_cons_zero, List.set_cons_succ]
        refine wpAnyH_take (i := 6) (v := (.int .i64 (k : Int))) rfl (by kernel_rfl) (by kernel_rfl) (by kernel_rfl) (fun _ _ _ h => h) (Or.inl ⟨by rfl, fun _ hSw => by go_simp⟩) hS ?_
        simp only [List.getElem_toArray, List.getElem_cons_succ, List.getElem_cons_zero, Act.put, List.setIfInBounds_toArray, List.set_cons_zero, List.set_cons_succ]
        refine wpAnyH_take (i := 7) (v := (.int .i64 ((k : Int) * 64))) rfl (by kernel_rfl) (by kernel_rfl) (by kernel_rfl) (fun _ _ _ h => h) (Or.inl ⟨by rfl, fun _ hSw => by go_simp; exact IntWalk.i64_in _ (by omega)⟩) hS ?_
        simp only [List.getElem_toArray, List.getElem_cons_succ, List.getElem_cons_zero, Act.put, List.setIfInBounds_toArray, List.set_cons_zero, List.set_cons_succ]
        refine wpAnyH_take (i := 8) (v := (.int .i64 (en : Int))) rfl (by kernel_rfl) (by kernel_rfl) (by kernel_rfl) (fun _ _ _ h => h) (Or.inl ⟨by rfl, fun _ hSw => by go_simp⟩) hS ?_
        simp only [List.getElem_toArray, List.getElem_cons_succ, List.getElem_cons_zero, Act.put, List.setIfInBounds_toArray, List.set_cons_zero, List.set_cons_succ]
        refine wpAnyH_take (i := 9) (v := .slice AL (en - k * 64) (d5 - k * 64)) rfl (by kernel_rfl) (by kernel_rfl) (by kernel_rfl) (fun _ _ _ h => h) (Or.inl ⟨by rfl, fun w' _ => exec_slice_lh w' 22 5 _ _ _ rfl Tryd.underlying22 u8_size X5 L.length d5 (k * 64) en .i64 .i64 _ _ rfl rfl rfl (by omega) rfl hkl (by have := HLL2.out; omega) f5 _ HAL.out⟩) hS ?_
        simp only [List.getElem_toArray, List.getElem_cons_succ, List.getElem_cons_zero, Act.put, List.setIfInBounds_toArray, List.set_cons_zero, List.set_cons_succ]
        refine wpAnyH_take (i := 10) (v := .string ⟨Lp.toArray⟩) rfl (by kernel_rfl) (by kernel_rfl) (by kernel_rfl) (fun _ _ _ h => h) (Or.inl ⟨by rfl, fun w' hw' => exec_convert w' _ _ _ rfl _ _ rfl (HS2.out w' hw')⟩) hS ?_
        simp only [List.getElem_toArray, List.getElem_cons_succ, List.getElem_cons_zero, Act.put, List.setIfInBounds_toArray, List.set_cons_zero, List.set_cons_succ]
        refine wpAnyH_take (i := 11) (v := (.bool true)) rfl (by kernel_rfl) (by kernel_rfl) (by kernel_rfl) (fun _ _ _ h => h) (Or.inl ⟨by rfl, fun _ hSw => by go_simp⟩) hS ?_
        simp only [List.getElem_toArray, List.getElem_cons_succ, List.getElem_cons_zero, Act.put, List.setIfInBounds_toArray, List.set_cons_zero, List.set_cons_succ]
        refine wpAnyH_take (i := 12) (v := (.bool true)) rfl (by kernel_rfl) (by kernel_rfl) (by kernel_rfl) (fun _ _ _ h => h) (Or.inl ⟨by rfl, fun _ hSw => by go_simp⟩) hS ?_
        simp only [List.getElem_toArray, List.getElem_cons_succ, List.getElem_cons_zero, Act.put, List.setIfInBounds_toArray, List.set_cons_zero, List.set_cons_succ]
        refine wpAnyH_take (i := 13) (v := (.bool true)) rfl (by kernel_rfl) (by kernel_rfl) (by kernel_rfl) (fun _ _ _ h => h) (Or.inl ⟨by rfl, fun _ hSw => by go_simp⟩) hS ?_
        simp only [List.getElem_toArray, List.getElem_cons_succ, List.getElem_cons_zero, Act.put, List.setIfInBounds_toArray, List.set_cons_zero, List.set_cons_succ]
        refine wpAnyH_ready (rs := [14]) (by kernel_rfl) (by simp) (AllReadyH.cons rfl (fun K hK => ?_) AllReadyH.nil)
        simp only [List.getElem_toArray, List.getElem_cons_succ, List.getElem_cons_zero, Act.put, List.setIfInBounds_toArray, List.set_cons_zero, List.set_cons_succ]
        go_simp
        refine (awake5_any _ (HT.out.next (next hb7 hbd))).mono ?_
        rintro e w9 ⟨rfl, hb9⟩
        have hb10 := next hbd hb9
        replace hS := HSI.out _ hb10
        refine hK.out _ _ hS (fun _ => ?_)
        clear hK K hb9
        refine wpAnyH_take (i := 15) (v := (.bool true)) rfl (by kernel_rfl) (by kernel_rfl) (by kernel_rfl) (fun _ _ _ h => h) (Or.inl ⟨by rfl, fun _ hSw => by go_simp⟩) hS ?_
        simp only [List.getElem_toArray, List.getElem_cons_succ, List.getElem_cons_zero, Act.put, List.setIfInBounds_toArray, List.set_cons_zero, List.set_cons_succ]
        refine wpAnyH_take (i := 16) (v := (.bool true)) rfl (by kernel_rfl) (by kernel_rfl) (by kernel_rfl) (fun _ _ _ h => h) (Or.inl ⟨by rfl, fun _ hSw => by go_simp⟩) hS ?_
        simp only [List.getElem_toArray, List.getElem_cons_succ, List.getElem_cons_zero, Act.put, List.setIfInBounds_toArray, List.set_cons_zero, List.set_cons_succ]
        refine wpAnyH_done (by kernel_rfl) ?_ _
        go_wp2
        go_ret
        exact ⟨rfl, next hb7 hb10⟩
    · have hne : (E != 0) = true := by simp; exact hE0
      have hlen : ((L.length : Int) == 0) = true := by rw [hL0]; rfl
      clear hE0 hL0
      have hb6 := next hb0 hb5
      clear HSI HS0 HS1 HS2 HS3
      go_wp2_with fail
      refine (awake5_any _ (HT.out.next hb6)).mono ?_
      rintro e w9 ⟨rfl, hb9⟩
      go_wp2
      go_ret
      exact ⟨rfl, next hb6 hb9⟩

theorem cipherParts_walk (v : Value) (a1 a2 : Int) (w : World) (hT : TabC w) (h : StretchIn w v) (w1 : (Lit.int .u16 a1).wf = true) (w2 : (Lit.int .u16 a2).wf = true) :
    Calls Tryd.prog 7 #[v, .int .u16 a1, .int .u16 a2] w fun e w' => e = .returned (.bool true) ∧ Below w.heap.size w w' := by
  obtain ⟨A0, n0, c0, l0, A1, n1, c1, l1, f, A3, n3, c3, l3, rfl, i0, i1, hf, i3⟩ := h
  obtain ⟨p0, p1⟩ := bounds_u16 w1
  obtain ⟨q0, q1⟩ := bounds_u16 w2
  obtain ⟨x, rfl⟩ := Int.eq_ofNat_of_zero_le p0
  obtain ⟨y, rfl⟩ := Int.eq_ofNat_of_zero_le q0
  exact cipherParts_st A0 n0 c0 l0 A1 n1 c1 l1 f A3 n3 c3 l3 x y w hT i0 i1 hf i3 (by omega) (by omega)

end Go.Proofs.YtnhpamfmbledmaaDoor
