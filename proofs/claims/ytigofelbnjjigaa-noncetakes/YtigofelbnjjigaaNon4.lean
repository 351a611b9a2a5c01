/- NonceTakes: the walk of the law. -/
import Derived.Test.YtigofelbnjjigaaNonX
namespace Go.Proofs.Ytigofelbnjjigaa
set_option maxRecDepth 100000
open Go Go.RowKit
set_option linter.unusedVariables false
set_option linter.unusedSimpArgs false

/-- The two ways of Take. -/
theorem take_ways (e l n : Int) : (∃ en ln m : Nat, e = en ∧ l = ln ∧ n = m ∧ en ≤ 64 ∧ ln + m ≤ 1099511627776 ∧ m ≤ 4096 ∧ takeE e l n = 0 ∧ takeC e l n = cnt en ((ln : Int) + (m : Int)) ∧ rtakeN e l n = (ln : Int) + (m : Int) ∧ takeL e l n = nls en ln m) ∨ ((takeE e l n = 1 ∨ takeE e l n = 10) ∧ takeC e l n = cnt 0 0 ∧ rtakeN e l n = 0 ∧ takeL e l n = []) := by
  by_cases h : takeE e l n = 0
  · left
    have hc : cnok e l = true ∧ 0 ≤ n ∧ n ≤ 4096 ∧ ¬ 1099511627776 - l < n := by
      unfold takeE at h
      split at h
      · rename_i q
        split at h
        · cases h
        · exact ⟨q.1, q.2.1, q.2.2, by assumption⟩
      · cases h
    obtain ⟨h1, h2, h3, h4⟩ := hc
    obtain ⟨i1, i2, i3, i4⟩ := (cnok_iff e l).1 h1
    refine ⟨e.toNat, l.toNat, n.toNat, by omega, by omega, by omega, by omega, by omega, by omega, h, ?_, ?_, ?_⟩
    · unfold takeC; rw [if_pos h]; congr 1 <;> omega
    · unfold rtakeN; rw [if_pos h]; omega
    · unfold takeL; rw [if_pos h]
  · right
    refine ⟨?_, ?_, ?_, ?_⟩
    · unfold takeE at h ⊢
      split
      · rename_i q
        rw [if_pos q] at h
        split
        · exact .inr rfl
        · rename_i q2; rw [if_neg q2] at h; exact absurd rfl h
      · exact .inl rfl
    · unfold takeC; rw [if_neg h]
    · unfold rtakeN; rw [if_neg h]
    · unfold takeL; rw [if_neg h]

set_option maxHeartbeats 2000000 in
theorem nonceTakes_walk (v0 : Value) (a1 : Int) (w : World) (s0 : CnIn w v0) (w1 : (Lit.int .i64 a1).wf = true) :
    Calls Try.prog 3 #[v0, .int .i64 a1] w fun e w' => e = .returned (.bool true) ∧ Below w.heap.size w w' := by
  obtain ⟨e, l, rfl, _, _⟩ := s0
  clear w1
  obtain ⟨W, HW, b0, hb0, hsz, _, _⟩ := put_cn w e l 23
  have HB := Lib.hid b0
  have ht := ntake_any e l a1
  have hr := rntake_any e l a1
  have hpr := nright_any e l
  have hrr := rnright_any e l
  obtain ⟨ok, hok⟩ : ∃ ok, ok = cnok e l := ⟨_, rfl⟩
  rw [← hok] at hrr hpr
  have HPR := Lib.hid hpr
  have HRR := Lib.hid hrr
  clear hok hpr hrr hsz b0
  have hways := take_ways e l a1
  unfold TakePost at ht
  unfold RTakePost at hr
  rcases hways with ⟨en, ln, m, rfl, rfl, rfl, q1, q2, q3, hE, hC, hN, hL⟩ | ⟨hE, hC, hN, hL⟩
  · rw [hE, hC, hL] at ht
    rw [hE, hN, hL] at hr
    have HT := Lib.hid ht
    have HR := Lib.hid hr
    clear hE hC hN hL ht hr
    go_enter Try.func3, Try.ntmps3
    go_wp2_with (first
      | (refine wpList_box_agg rfl 23 _ rfl (cnt en ln) rfl ?_; rw [HW.out])
      | (refine wpList_load_mid rfl 23 _ rfl _ _ rfl (cnt en ln) _ HB.out.whole Try.underlying23 rfl size_cn ?_)
      | (go_at_call 8; refine (HT.out W).mono ?_; rintro r w3 ⟨v1, rfl, ho1, hb3⟩; obtain ⟨W4, HW4, hth, b4, hb4, hsz4, _, _⟩ := put_cn2 w3 en ((ln : Int) + (m : Int)) 23; have b34 := (HB.out.next hb3).next hb4; have hbw := next (next hb0 hb3) hb4; have ho14 := (ho1.next hb4); have hc0 : W4.cell? ⟨w.heap.size, 0, none⟩ = some (.int .i64 en) := (by rw [b34.cell]; rfl); have hc1 : W4.cell? ⟨w.heap.size, 1, none⟩ = some (.int .i64 ln) := (by rw [b34.cell]; rfl))
      | (refine wpList_alloc_zero rfl 23 rfl (cnt 0 0) zero_cn ?_)
      | (refine wpList_store_mid rfl 23 _ _ rfl _ _ (cnt en ((ln : Int) + (m : Int))).toArray rfl rfl hth size_cn (all_oneCell_toArray (cnt_one _ _)) ?_; rw [HW4.out])
      | fail)
    refine (HR.out W4).mono ?_
    rintro r w5 ⟨v2, rfl, ho2, hb5⟩
    have ho15 := ho14.next hb5
    have b35 := b34.next hb5
    have b45 := b4.next hb5
    have hbw5 := next hbw hb5
    obtain ⟨A1, c1, rfl⟩ := ho15.form
    obtain ⟨A2, c2, rfl⟩ := ho2.form
    rw [nls_len] at ho15 ho2 ⊢
    have hd0 : w5.cell? ⟨w3.heap.size, 0, none⟩ = some (.int .i64 en) := by rw [b45.cell]; rfl
    have hd1 : w5.cell? ⟨w3.heap.size, 1, none⟩ = some (.int .i64 ((ln : Int) + (m : Int))) := by rw [b45.cell]; rfl
    have he0 : w5.cell? ⟨w.heap.size, 0, none⟩ = some (.int .i64 en) := by rw [b35.cell]; rfl
    have he1 : w5.cell? ⟨w.heap.size, 1, none⟩ = some (.int .i64 ln) := by rw [b35.cell]; rfl
    clear HW HB HT HR ho1 ho14 HW4 hth b4 hb4 hb3 hb5 hc0 hc1 b34 hbw hb0 hsz4
    go_wp2_with fail
    go_loopw [11, 62] (fun _ i wr => ∃ k : Nat, k ≤ m ∧ i = .int .i64 (k : Int) ∧ Drew w5 wr) (fun _ i _ => m - (intOf i).toNat)
    case atStart => exact ⟨0, Nat.zero_le _, rfl, Drew.refl _⟩
    case round =>
      obtain ⟨k, hk, rfl, hD⟩ := hrel
      by_cases hlt : k < m
      · obtain ⟨g1, B1, d1, rfl, k1, s1, _, _⟩ := ho15.at_ (j := k) (by rw [nls_len]; exact hlt)
        obtain ⟨g2, B2, d2, rfl, k2, s2, _, _⟩ := ho2.at_ (j := k) (by rw [nls_len]; exact hlt)
        simp only [nls_at, nonceL_len] at k1 s1 k2 s2
        obtain ⟨X, hX⟩ : ∃ X, X = nonceL en (ln + 1 + k) := ⟨_, rfl⟩
        rw [← hX] at s1 s2
        have hD1 := hD.more 1
        have u1 := u8_str (s1.below (hD1.below _)) d1
        have u2 := u8_str (s2.below (hD1.below _)) d2
        have j1 := (hD1.cell _).trans k1
        have j2 := (hD1.cell _).trans k2
        have hXX : (X == X) = true := by simp
        have hi0 : (0 : Int) ≤ (k : Int) := by omega
        have hi1 : (k : Int) < (m : Int) := by omega
        clear hX k1 k2 s1 s2 ho15 ho2
        go_wp2
        go_region_held3 (fun w' => w'.cell? ⟨g1, k, none⟩ = some (.slice B1 12 d1) ∧ w'.cell? ⟨g2, k, none⟩ = some (.slice B2 12 d2) ∧ (convert 30 9 (.slice B1 12 d1)).run Try.prog w' = .ok (.string ⟨X.toArray⟩) w' ∧ (convert 30 9 (.slice B2 12 d2)).run Try.prog w' = .ok (.string ⟨X.toArray⟩) w')
          (exact ⟨j1, j2, u1, u2⟩)
          (fail)
        go_wp2
        go_roundw
        case rel => exact ⟨k + 1, by omega, by go_num, hD1⟩
        case measure => simp [intOf]; omega
      · have hkm : k = m := by omega
        have be := b35.keep (w' := wr) (by obtain ⟨q, rfl⟩ := hD; rfl)
        have hbr : Below w.heap.size w wr := hbw5.trans (hD.below _)
        go_wp2
        have keepS : Hid (∀ w', Below wr.heap.size wr w' → w'.cell? ⟨w.heap.size, 0, none⟩ = some (.int .i64 en) ∧ w'.cell? ⟨w.heap.size, 1, none⟩ = some (.int .i64 ln)) := fun w' hb => by
          have b := be.next hb
          exact ⟨by rw [b.cell]; rfl, by rw [b.cell]; rfl⟩
        have hrd : Below wr.heap.size wr wr.drew := (Below.refl _ wr).drew
        go_region_held3 (fun w' => w'.cell? ⟨w.heap.size, 0, none⟩ = some (.int .i64 en) ∧ w'.cell? ⟨w.heap.size, 1, none⟩ = some (.int .i64 ln))
          (first | exact keepS.out _ (by first | assumption | exact (Below.refl _ wr).drew))
          (first
            | (go_at_call 10; refine (HPR.out _).mono ?_; rintro r w8 ⟨rfl, h8⟩; have b8 : Below wr.heap.size wr w8 := hrd.trans h8)
            | (go_at_call 11; refine (HRR.out _).mono ?_; rintro r w7 ⟨rfl, rfl⟩)
            | (go_at_call 12; refine (awake10_any _).mono ?_; rintro r w9 ⟨rfl, h9⟩; have b9 := next b8 h9))
        all_goals
          go_wp2
          go_ret
          exact ⟨rfl, next hbr b9⟩
  · obtain ⟨X, hX⟩ : ∃ X, X = takeE e l a1 := ⟨_, rfl⟩
    rw [← hX] at hE
    simp only [← hX, hC, hL, hN] at ht hr
    have HT := Lib.hid ht
    have HR := Lib.hid hr
    clear hC hN hL ht hr hX
    go_enter Try.func3, Try.ntmps3
    rcases hE with rfl | rfl
    all_goals
      go_wp2_with (first
        | (refine wpList_box_agg rfl 23 _ rfl (cnt e l) rfl ?_; rw [HW.out])
        | (refine wpList_load_mid rfl 23 _ rfl _ _ rfl (cnt e l) _ HB.out.whole Try.underlying23 rfl size_cn ?_)
        | (go_at_call 8; refine (HT.out W).mono ?_; rintro r w3 ⟨v1, rfl, ho1, hb3⟩; obtain ⟨W4, HW4, hth, b4, hb4, hsz4, _, _⟩ := put_cn2 w3 0 0 23; have b34 := (HB.out.next hb3).next hb4; have hbw := next (next hb0 hb3) hb4; have ho14 := (ho1.next hb4); have hc0 : W4.cell? ⟨w.heap.size, 0, none⟩ = some (.int .i64 e) := (by rw [b34.cell]; rfl); have hc1 : W4.cell? ⟨w.heap.size, 1, none⟩ = some (.int .i64 l) := (by rw [b34.cell]; rfl))
        | (refine wpList_alloc_zero rfl 23 rfl (cnt 0 0) zero_cn ?_)
        | (refine wpList_store_mid rfl 23 _ _ rfl _ _ (cnt 0 0).toArray rfl rfl hth size_cn (all_oneCell_toArray (cnt_one _ _)) ?_; rw [HW4.out])
        | fail)
      refine (HR.out W4).mono ?_
      rintro r w5 ⟨v2, rfl, ho2, hb5⟩
      have ho15 := ho14.next hb5
      have b35 := b34.next hb5
      have b45 := b4.next hb5
      have hbw5 := next hbw hb5
      obtain ⟨A1, c1, rfl⟩ := ho15.form
      obtain ⟨A2, c2, rfl⟩ := ho2.form
      rw [List.length_nil] at ho15 ho2 ⊢
      have hd0 : w5.cell? ⟨w3.heap.size, 0, none⟩ = some (.int .i64 0) := by rw [b45.cell]; rfl
      have hd1 : w5.cell? ⟨w3.heap.size, 1, none⟩ = some (.int .i64 0) := by rw [b45.cell]; rfl
      have he0 : w5.cell? ⟨w.heap.size, 0, none⟩ = some (.int .i64 e) := by rw [b35.cell]; rfl
      have he1 : w5.cell? ⟨w.heap.size, 1, none⟩ = some (.int .i64 l) := by rw [b35.cell]; rfl
      clear HW HB HT HR ho1 ho14 HW4 hth b4 hb4 hb3 hb5 hc0 hc1 b34 hbw hb0 hsz4
      go_wp2_with fail
      go_loopw [62] (fun i wr => i = .int .i64 0 ∧ Drew w5 wr) (fun _ _ => 0)
      case atStart => exact ⟨rfl, Drew.refl _⟩
      case round =>
        obtain ⟨rfl, hD⟩ := hrel
        have be := b35.keep (w' := wr) (by obtain ⟨q, rfl⟩ := hD; rfl)
        have hbr : Below w.heap.size w wr := hbw5.trans (hD.below _)
        go_wp2
        have keepS : Hid (∀ w', Below wr.heap.size wr w' → w'.cell? ⟨w.heap.size, 0, none⟩ = some (.int .i64 e) ∧ w'.cell? ⟨w.heap.size, 1, none⟩ = some (.int .i64 l)) := fun w' hb => by
          have b := be.next hb
          exact ⟨by rw [b.cell]; rfl, by rw [b.cell]; rfl⟩
        have hrd : Below wr.heap.size wr wr.drew := (Below.refl _ wr).drew
        go_region_held3 (fun w' => w'.cell? ⟨w.heap.size, 0, none⟩ = some (.int .i64 e) ∧ w'.cell? ⟨w.heap.size, 1, none⟩ = some (.int .i64 l))
          (first | exact keepS.out _ (by first | assumption | exact (Below.refl _ wr).drew))
          (first
            | (go_at_call 10; refine (HPR.out _).mono ?_; rintro r w8 ⟨rfl, h8⟩; have b8 : Below wr.heap.size wr w8 := hrd.trans h8)
            | (go_at_call 11; refine (HRR.out _).mono ?_; rintro r w7 ⟨rfl, rfl⟩)
            | (go_at_call 12; refine (awake10_any _).mono ?_; rintro r w9 ⟨rfl, h9⟩; have b9 := next b8 h9))
        all_goals
          go_wp2
          go_ret
          exact ⟨rfl, next hbr b9⟩

end Go.Proofs.Ytigofelbnjjigaa
