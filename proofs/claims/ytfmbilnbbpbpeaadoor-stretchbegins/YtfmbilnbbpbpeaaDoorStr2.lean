/- The walk of the law StretchBegins. -/
import Derived.Test.YtfmbilnbbpbpeaaDoorStrV
namespace Go.Proofs.YtfmbilnbbpbpeaaDoor
open Go.RowKit
set_option linter.unusedVariables false
set_option linter.unusedSimpArgs false

/-- 's[:h]' as a step of a region that only reads. -/
theorem wpStill_slice_h {P : Program} {ops : Array Oper} {w : World} {Q : Act → Prop} {a : Act} {o : Oper} {rest : List Oper} (hw : Region.wanted o (yielded ops a.tmps) = true) (t : TypeId) (x hi : Operand) (ho : o.op = .slice t x none (some hi) none)
    (e : TypeId) (ht : P.underlying t = some (.slice e)) (he : (P.info? e).map (·.size) = some 1) (A : Option Addr) (n c h : Nat) (kh : IntKind) (H : Int) (hx : a.eval x = .slice A n c) (hhi : a.eval hi = .int kh H) (eH : H = h) (h1 : h ≤ c)
    (k : wpStill P ops w Q rest (a.put o.dst (.slice A h c))) : wpStill P ops w Q (o :: rest) a := by
  have hr := run_slice_h (P := P) w t e ht he A n c h kh H eH h1
  unfold wpStill
  rw [if_pos hw]
  unfold Oper.still execOp
  simp only [ho, Option.map_some, Option.map_none, hx, hhi, Instr.sliceAt, Sem.run_bind, run_underlying ht, Result.andThen_ok, hr, Sem.run_pure, Oper.stillUpon_value]
  exact k
theorem key_at (pass salt : List UInt8) (r n : Nat) (R N : Int) (eR : R = r) (eN : N = n) (w : World) (B : Nat) (A A' : Option Addr) (m c m' c' : Nat) (h : Sl w B A m (cb pass)) (hc : m ≤ c) (hA : A = none → c = 0) (hm : m ≤ 100000000) (h' : Sl w B A' m' (cb salt)) (hc' : m' ≤ c') (hA' : A' = none → c' = 0) (hm' : m' ≤ 1000000) (hB : B ≤ w.heap.size) (hT : Tabs w)
    (hr : 1 ≤ r) (hr' : r ≤ 4096) (hn : n ≤ 256) :
    Calls Tryd.prog 9 #[.slice A m c, .slice A' m' c', .int .i64 R, .int .i64 N] w (RetSl w (pbk pass salt r n) 0) := by
  subst eR; subst eN
  exact key_ok pass salt r n w B A A' m c m' c' h hc hA hm h' hc' hA' hm' hB hT hr hr' hn

set_option maxRecDepth 100000 in
set_option maxHeartbeats 1000000 in
theorem stretchBegins_walk (A0 : Option Addr) (n0 c0 : Nat) (l0 : List UInt8) (A1 : Option Addr) (n1 c1 : Nat) (l1 : List UInt8) (a2 a3 a4 : Int) (w : World) (hT : Tabs w)
    (s0 : InBytes w A0 n0 c0 l0) (s1 : InBytes w A1 n1 c1 l1) (w2 : (Lit.int .u8 a2).wf = true) (w3 : (Lit.int .u8 a3).wf = true) (w4 : (Lit.int .u8 a4).wf = true) :
    Calls Tryd.prog 4 #[.slice A0 n0 c0, .slice A1 n1 c1, .int .u8 a2, .int .u8 a3, .int .u8 a4] w fun e w' => e = .returned (.bool true) ∧ Below w.heap.size w w' := by
  have y0 := s0.sl
  have z0 := s0.none_
  have e0 := s0.len
  have y1 := s1.sl
  have z1 := s1.none_
  have e1 := s1.len
  have v2 := bounds_u8 w2
  have v3 := bounds_u8 w3
  have v4 := bounds_u8 w4
  clear s0 s1 w2 w3 w4
  subst e0; subst e1
  have HT := Lib.hid hT
  clear hT
  by_cases hbig : l0.length ≤ 400 ∧ l1.length ≤ 400
  · obtain ⟨b0, b1⟩ := hbig
    have q0 : decide (400 < (l0.length : Int)) = false := by simp; omega
    have q1 : decide (400 < (l1.length : Int)) = false := by simp; omega
    obtain ⟨a2, rfl⟩ := Int.eq_ofNat_of_zero_le v2.1
    obtain ⟨N, rfl⟩ := Int.eq_ofNat_of_zero_le v3.1
    obtain ⟨a4, rfl⟩ := Int.eq_ofNat_of_zero_le v4.1
    obtain ⟨R, hR⟩ : ∃ R : Nat, R = a2 % 8 + 1 := ⟨_, rfl⟩
    obtain ⟨K, hK⟩ : ∃ K : Nat, K = a4 % (N + 1) := ⟨_, rfl⟩
    have hK2 : K ≤ N := by rw [hK]; have := Nat.mod_lt a4 (show 0 < N + 1 by omega); omega
    have eR : (a2 : Int) % 8 + 1 = (R : Int) := by omega
    have eK : (a4 : Int) % ((N : Int) + 1) = (K : Int) := by rw [hK, Int.natCast_emod]; rfl
    have hR1 : 1 ≤ R ∧ R ≤ 8 := by omega
    have hN : N ≤ 255 := by omega
    have HPK := Lib.hid (pbk_take l0 l1 R N K hK2)
    have HPL := Lib.hid (pbk_len l0 l1 R N)
    have HPL2 := Lib.hid (pbk_len l0 l1 R K)
    have hN0 : (0 : Int) ≤ (N : Int) + 1 := by omega
    have hN1 : (N : Int) + 1 ≠ 0 := by omega
    have hN2 : (((N : Int) + 1) == 0) = false := by simp; omega
    have v2' : a2 ≤ 255 := by omega
    have v4' : a4 ≤ 255 := by omega
    clear hR hK v2 v3 v4
    go_enter Tryd.func4, Tryd.ntmps4
    have hb0 : Below w.heap.size w w := Below.refl _ _
    go_wp2_with fail
    refine (own_any l0 _ _ _ _ _ (y0.nx hb0) z0 (by omega) (Nat.le_refl _)).mono ?_
    rintro e wa1 ⟨Xa0, da0, rfl, h1⟩
    have hba1 := next hb0 h1.below
    have x0 := h1.sl
    have f0 := h1.none_
    have g0 := own_cap h1.own
    clear h1 hb0
    go_wp2_with fail
    refine (own_any l1 _ _ _ _ _ (y1.nx hba1) z1 (by omega) (Nat.le_refl _)).mono ?_
    rintro e wa2 ⟨Xa1, da1, rfl, h2⟩
    have hba2 := next hba1 h2.below
    replace x0 := x0.nx h2.below
    have x1 := h2.sl
    have f1 := h2.none_
    have g1 := own_cap h2.own
    clear h2 hba1
    go_wp2_with fail
    refine (key_at l0 l1 R N _ _ (by first | rfl | omega) rfl _ _ _ _ _ _ _ _ x0 g0 f0 (by omega) x1 g1 f1 (by omega) (Nat.le_refl _) (HT.out.next hba2) (by omega) (by omega) (by omega)).mono ?_
    rintro e wa3 ⟨Xa3, na3, da3, rfl, h3⟩
    have hba3 := next hba2 h3.below
    obtain rfl : na3 = N := by rw [h3.len, HPL.out]
    have xa := h3.sl
    have ga := h3.cap
    clear h3 x0 f0 g0 x1 f1 g1 hba2
    go_wp2_with fail
    refine (own_any l0 _ _ _ _ _ (y0.nx hba3) z0 (by omega) (Nat.le_refl _)).mono ?_
    rintro e wb1 ⟨Xb0, db0, rfl, h1⟩
    have hbb1 := next hba3 h1.below
    have x0 := h1.sl
    have f0 := h1.none_
    have g0 := own_cap h1.own
    have hbx1 := h1.below
    clear h1 hba3
    go_wp2_with fail
    refine (own_any l1 _ _ _ _ _ (y1.nx hbb1) z1 (by omega) (Nat.le_refl _)).mono ?_
    rintro e wb2 ⟨Xb1, db1, rfl, h2⟩
    have hbb2 := next hbb1 h2.below
    replace x0 := x0.nx h2.below
    have x1 := h2.sl
    have f1 := h2.none_
    have g1 := own_cap h2.own
    have hbx2 := h2.below
    clear h2 hbb1
    go_wp2_with fail
    refine (key_at l0 l1 R K _ _ (by first | rfl | omega) (by first | rfl | omega) _ _ _ _ _ _ _ _ x0 g0 f0 (by omega) x1 g1 f1 (by omega) (Nat.le_refl _) (HT.out.next hbb2) (by omega) (by omega) (by omega)).mono ?_
    rintro e wb3 ⟨Xb3, nb3, db3, rfl, h3⟩
    have hbb3 := next hbb2 h3.below
    obtain rfl : nb3 = K := by rw [h3.len, HPL2.out]
    replace xa := ((xa.nx hbx1).nx hbx2).nx h3.below
    have xb := h3.sl
    clear h3 x0 f0 g0 x1 f1 g1 hbb2
    have xt := sl_take xa hK2
    rw [show (cb (pbk l0 l1 R na3)).take nb3 = cb ((pbk l0 l1 R na3).take nb3) by simp [cb], HPK.out] at xt
    obtain ⟨S, hS⟩ : ∃ S, S = pbk l0 l1 R nb3 := ⟨_, rfl⟩
    rw [← hS] at xt xb
    obtain ⟨wd, hwd⟩ : ∃ x, x = wb3.drew := ⟨_, rfl⟩
    have u0 : (convert 22 9 (.slice Xa3 nb3 da3)).run Tryd.prog wd = .ok (.string ⟨S.toArray⟩) wd := by rw [hwd]; exact u8_str (xt.drewN 1) da3
    have u1 : (convert 22 9 (.slice Xb3 nb3 db3)).run Tryd.prog wd = .ok (.string ⟨S.toArray⟩) wd := by rw [hwd]; exact u8_str (xb.drewN 1) db3
    have hbd : Below w.heap.size w wd := by rw [hwd]; exact hbb3.drew
    have hTw := HT.out.next hbd
    have HWD := Lib.hid hwd
    have hca : nb3 ≤ da3 := by omega
    clear xa xt xb hS HPK HPL HPL2 hwd hbb3
    go_wp2_with fail
    have hwN : IntKind.i64.wrap (na3 : Int) = (na3 : Int) := IntWalk.i64_in _ (by omega)
    refine wp_region_still_tail 29 (by kernel_rfl) (by kernel_rfl) ?_
    simp only [List.take_succ_cons, List.take_zero, List.drop_succ_cons, List.drop_zero]
    change wpStill _ _ wb3.drew _ _ _
    rw [← HWD.out]
    iterate 22 still_step
    refine wpStill_slice_h (by kernel_rfl) 22 _ _ rfl 5 Tryd.underlying22 u8_size Xa3 _ da3 nb3 .i64 _ rfl rfl rfl hca ?_
    repeat still_step
    refine wpStill_nil ?_
    go_wp2_with fail
    rw [← HWD.out]
    refine (awake4_any _ hTw).mono ?_
    rintro e w9 ⟨rfl, hb9⟩
    go_wp2
    go_ret
    exact ⟨rfl, next hbd hb9⟩
  · rcases (show 400 < l0.length ∨ (l0.length ≤ 400 ∧ 400 < l1.length) by omega) with q0 | ⟨q0, q1⟩
    · have k0 : decide (400 < (l0.length : Int)) = true := by simp; omega
      clear hbig
      go_enter Tryd.func4, Tryd.ntmps4
      go_wp2_with (go_at_call 7; refine (awake4_any _ HT.out).mono ?_; rintro e w' ⟨rfl, hb⟩)
      go_ret
      exact ⟨rfl, hb⟩
    · have k0 : decide (400 < (l0.length : Int)) = false := by simp; omega
      have k1 : decide (400 < (l1.length : Int)) = true := by simp; omega
      clear hbig
      go_enter Tryd.func4, Tryd.ntmps4
      go_wp2_with (go_at_call 7; refine (awake4_any _ HT.out).mono ?_; rintro e w' ⟨rfl, hb⟩)
      go_ret
      exact ⟨rfl, hb⟩

end Go.Proofs.YtfmbilnbbpbpeaaDoor

