/- rest of the reference. -/
import Derived.Test.YtkopdkamhkmefaaGfR
namespace Go.Proofs.Ytkopdkamhkmefaa
set_option maxRecDepth 100000
open Go Go.RowKit
set_option linter.unusedVariables false
set_option linter.unusedSimpArgs false

theorem wrap_nat (s : Nat) (h : s < 9223372036854775808) : IntKind.i64.wrap (s : Int) = (s : Int) := by simp [IntKind.wrap, IntKind.bits, IntKind.signed]; omega

/-- Coefficients that lie in memory: at most D of them, of the value V. -/
def RetBt (w : World) (D V : Nat) (e : Ending) (w' : World) : Prop := ∃ (z : List Nat) (A : Option Addr) (n c : Nat), e = .returned (.slice A n c) ∧ n ≤ D ∧ Bt z ∧ bv 2 z = V ∧ Sl w' w'.heap.size A n (is z) ∧ Below w.heap.size w w'

set_option maxRecDepth 100000 in
set_option maxHeartbeats 2000000 in
theorem rest_any (l ms : List Nat) (d V : Nat) (w : World) (B B' : Nat) (A A' : Option Addr) (n m c c' : Nat) (hl : Sl w B A n (is l)) (hA : A = none → c = 0) (hm : Sl w B' A' m (is ms)) (bl : Bt l) (bm : Bt ms) (hB : B ≤ w.heap.size) (hB' : B' ≤ w.heap.size)
    (hn : n ≤ 1000) (hmd : m = d + 1) (hd : Deg (bv 2 ms) d) (hd63 : d ≤ 63) (hV : V = pr (bv 2 ms) d (bv 2 l)) :
    Calls Try.prog 41 #[.slice A n c, .slice A' m c'] w (RetBt w d V) := by
  obtain ⟨i0, hi, hz0, hz1, hz2⟩ := info_parts int_inf
  have h0 := World.ownsRow_lit (base := w.heap.size) (e := 3) (size := 1) w #[] 0 (Nat.le_refl _) (by decide) rfl
  have hnl : n = l.length := by rw [← hl.1, is_len]
  have hml : m = ms.length := by rw [← hm.1, is_len]
  obtain ⟨M, hM⟩ : ∃ M, M = bv 2 ms := ⟨_, rfl⟩
  obtain ⟨L, hL⟩ : ∃ L, L = bv 2 l := ⟨_, rfl⟩
  rw [← hM, ← hL] at hV
  rw [← hM] at hd
  have HM := Lib.hid hM
  have HL := Lib.hid hL
  have HV := Lib.hid hV
  have HD := Lib.hid hd
  have HBL := Lib.hid bl
  have HBM := Lib.hid bm
  have HNL := Lib.hid hnl
  have HML := Lib.hid hml
  have HMD := Lib.hid hmd
  have em : (m : Int) - 1 = (d : Int) := by omega
  obtain ⟨ad, rfl, hadb, hmc⟩ := hm.2 (by omega)
  have HMC := Lib.hid hmc
  clear hM hL hV hd bl bm hnl hml hm hmc hmd
  go_enter Try.func41, Try.ntmps41
  go_wp2_with (at_builtin; refine wpList_append_sl _ rfl _ _ 28 rfl w.heap.size 3 i0 (.int .i64 0) 8 Try.underlying28 hi hz0 hz1 hz2 rfl _ 0 [] rfl h0 B A n c (is l) rfl (hl.alloc hB _) hA (is_one l) (by unfold maxLen; omega) (by omega) (by simp) ?_; intro v' w1 hown' hgrow hat)
  have hb1 : Below w.heap.size w w1 := below_app ((Below.refl w.heap.size w).alloc (Nat.le_refl _) _) (Nat.le_refl _) h0 hgrow
  have hown : w1.ownsRow w.heap.size 3 1 v' n (is l) := by simpa using hown'
  clear hgrow hat h0 hown' hl
  by_cases hnd : n ≤ d
  · obtain ⟨A2, c2, rfl⟩ := own_form hown
    have HE : Hid (bv 2 l = V) := by
      unfold Hid
      have h1 := HBL.out.lt
      rw [← HNL.out] at h1
      rw [HV.out, pr_self HD.out (by rw [HL.out]; exact Nat.lt_of_lt_of_le h1 (Nat.pow_le_pow_right (by decide) hnd)), HL.out]
    have q1 : ¬ (d : Int) ≤ (n : Int) - 1 := by omega
    have q2 : ¬ (m : Int) ≤ (n : Int) := by omega
    go_wp2
    go_loopw [6] (fun t wr => t = .int .i64 ((n : Int) - 1) ∧ wr = w1) (fun _ _ => 0)
    case atStart => exact ⟨rfl, rfl⟩
    case round =>
      obtain ⟨rfl, rfl⟩ := hrel
      go_wp2
      go_ret
      exact ⟨l, A2, n, c2, rfl, hnd, HBL.out, HE.out, Sl.own hown, hb1⟩
  · obtain ⟨g, cap, rfl, hgw, hgl⟩ := hown.form (by omega)
    have hcap := own_cap hown
    have hnd2 : d + 1 ≤ n := by omega
    have HB1 := Lib.hid hb1
    clear hnd
    go_wp2
    rw [run_len_slice (h := Try.underlying28)]
    go_wp2
    go_loopw [6] (fun t wr => ∃ (k : Nat) (z : List Nat), d ≤ k ∧ k ≤ n ∧ t = .int .i64 ((k : Int) - 1) ∧ z.length = n ∧ Bt z ∧ Cg M (bv 2 z) L ∧ bv 2 z < 2 ^ k ∧ wr.ownsRow w.heap.size 3 1 (.slice (some ⟨g, 0, none⟩) n cap) n (is z) ∧ Below w.heap.size w wr) (fun t _ => (intOf t + 1).toNat)
    case atStart => exact ⟨n, l, by omega, Nat.le_refl _, rfl, HNL.out.symm, HBL.out, by rw [← HL.out]; exact Cg.refl _ _, by rw [HNL.out]; exact HBL.out.lt, hown, hb1⟩
    case round =>
      clear hown hb1
      obtain ⟨k, z, hdk, hkn, rfl, hzl, hzb, hcg, hlt, hown, hb1⟩ := hrel
      by_cases hk : k = d
      · subst hk
        have HE : Hid (bv 2 (z.take k) = V) := by unfold Hid; rw [bv_small hzb k hlt, HV.out]; exact mod_end HD.out hcg hlt
        have HZB : Hid (Bt (z.take k)) := hzb.take k
        have hs := sl_take (h := k) (Sl.own hown) hkn
        rw [← is_take] at hs
        clear hcg hlt hzb
        have q1 : ¬ (k : Int) ≤ (k : Int) - 1 := by omega
        have q2 : (m : Int) ≤ (n : Int) := by have := HMD.out; omega
        go_wp2
        go_ret
        exact ⟨z.take k, _, k, _, rfl, Nat.le_refl _, HZB.out, HE.out, hs, hb1⟩
      · obtain ⟨i, rfl⟩ : ∃ i, k = i + 1 := ⟨k - 1, by omega⟩
        have ei : ((i + 1 : Nat) : Int) - 1 = (i : Int) := by omega
        rw [ei]
        have hdi : d ≤ i := by omega
        obtain ⟨x, hx⟩ : ∃ x, x = z.getD i 0 := ⟨_, rfl⟩
        have hcx : wr.cell? ⟨g, i, none⟩ = some (.int .i64 (x : Int)) := by rw [hown.cellAt i (by omega), is_gD (by omega), ← hx]
        have hx2 : x < 2 := by rw [hx]; exact hzb.at_ i
        have j0 : (0 : Int) ≤ (i : Int) := by omega
        have j1 : (i : Int) < (n : Int) := by omega
        have q1 : (d : Int) ≤ (i : Int) := by omega
        by_cases hx1 : x = 1
        · have HDZ := Lib.hid (top_one hzb hlt (by rw [← hx, hx1]))
          have HCG := Lib.hid hcg
          subst hx1
          obtain ⟨P, hP⟩ : ∃ P, P = bv 2 z := ⟨_, rfl⟩
          rw [← hP] at HDZ HCG
          have HP := Lib.hid hP
          have HZB := Lib.hid hzb
          have HZL := Lib.hid hzl
          clear hx hlt hcg hP hzb hzl hk
          go_wp2
          clear hcx
          go_loopw [7] (fun t wr => ∃ (j : Nat) (y : List Nat), j ≤ m ∧ t = .int .i64 (j : Int) ∧ y.length = n ∧ Bt y ∧ bv 2 y = offTo P M d i j ∧ wr.ownsRow w.heap.size 3 1 (.slice (some ⟨g, 0, none⟩) n cap) n (is y) ∧ Below w.heap.size w wr) (fun t _ => m - (intOf t).toNat)
          case atStart => exact ⟨0, z, Nat.zero_le _, rfl, HZL.out, HZB.out, by rw [offTo_zero HD.out.2, HP.out], hown, hb1⟩
          case round =>
            clear hown hb1
            obtain ⟨j, y, hjm, rfl, hyl, hyb, hyv, hown, hb1⟩ := hrel
            by_cases hjl : j < m
            · have hjd : j ≤ d := by have := HMD.out; omega
              obtain ⟨s, hs⟩ : ∃ s, s = i - j := ⟨_, rfl⟩
              obtain ⟨t, ht⟩ : ∃ t, t = d - j := ⟨_, rfl⟩
              have es : (i : Int) - (j : Int) = (s : Int) := by omega
              have et : (d : Int) - (j : Int) = (t : Int) := by omega
              obtain ⟨p, hp⟩ : ∃ p, p = y.getD s 0 := ⟨_, rfl⟩
              obtain ⟨q, hq⟩ : ∃ q, q = ms.getD t 0 := ⟨_, rfl⟩
              have hp2 : p < 2 := by rw [hp]; exact hyb.at_ s
              have hq2 : q < 2 := by rw [hq]; exact HBM.out.at_ t
              have hcp : wr.cell? ⟨g, s, none⟩ = some (.int .i64 (p : Int)) := by rw [hown.cellAt s (by omega), is_gD (by omega), ← hp]
              have hfp := hown.frozenAt s
              have hcq : wr.cell? (ad.add t) = some (.int .i64 (q : Int)) := by
                have h1 := HMC.out t _ (is_gD (by rw [← HML.out, HMD.out]; omega))
                rw [← hq] at h1
                exact (hb1.cell (by rw [add_block]; omega)).trans h1
              obtain ⟨r, hr⟩ : ∃ r, r = (p + q) % 2 := ⟨_, rfl⟩
              have er : ((p : Int) + (q : Int)) % 2 = (r : Int) := by omega
              have hr2 : r < 2 := by omega
              have HNX : Hid (bv 2 (y.set s r) = offTo P M d i (j + 1)) := by
                unfold Hid
                have h1 := bv_flip hyb s q (by omega) hq2
                rw [← hp, ← hr, hyv, hq, bv_digit HBM.out, ← HM.out, ht, hs, offTo_next _ _ _ _ _ hjd hdi, ← hs] at h1
                exact h1
              have HYB := Lib.hid (hyb.set s hr2)
              have HYL := Lib.hid hyl
              have s0 : (0 : Int) ≤ (s : Int) := by omega
              have s1 : (s : Int) < (n : Int) := by omega
              have t0 : (0 : Int) ≤ (t : Int) := by omega
              have t1 : (t : Int) < (m : Int) := by have := HMD.out; omega
              have ws := wrap_nat s (by omega)
              have wt := wrap_nat t (by omega)
              have wd := wrap_nat d (by omega)
              clear hs ht hp hq hr hyv hyb hyl hjd
              go_wp2
              go_still_tail 21, (by kernel_rfl)
              go_wp2
              go_roundw
              case rel =>
                obtain ⟨hown2, hrest⟩ := hown.stored s (.int .i64 (r : Int))
                rw [is_set] at hown2
                exact ⟨j + 1, y.set s r, by omega, by go_num, by rw [List.length_set, HYL.out], HYB.out, HNX.out, hown2, (hb1.setCell (by simp; omega) _).drew⟩
              case measure => simp [intOf]; omega
            · have HJ : Hid (j = d + 1) := by unfold Hid; have := HMD.out; omega
              have HFIN : Hid (bv 2 y < 2 ^ i ∧ Cg M (bv 2 y) L) := by
                unfold Hid
                obtain ⟨h1, h2⟩ := mod_down HDZ.out HD.out hdi
                rw [HJ.out, offTo_all _ _ _ _ hdi] at hyv
                rw [hyv]
                exact ⟨h1, h2.trans HCG.out⟩
              have HYB := Lib.hid hyb
              have HYL := Lib.hid hyl
              have q5 : ¬ (j : Int) < (m : Int) := by omega
              clear hyv hyb hyl
              go_wp2
              go_roundw
              case rel => exact ⟨i, y, hdi, by omega, rfl, HYL.out, HYB.out, HFIN.out.2, HFIN.out.1, hown, hb1⟩
              case measure => simp [intOf]
        · have HLT := Lib.hid (top_zero hzb hlt (by rw [← hx]; exact hx1))
          have HCG := Lib.hid hcg
          have HZB := Lib.hid hzb
          have HZL := Lib.hid hzl
          have q3 : ((x : Int) == 1) = false := by simp; omega
          clear hx hlt hcg hzb hzl hk
          go_wp2
          go_roundw
          case rel => exact ⟨i, z, hdi, by omega, rfl, HZL.out, HZB.out, HCG.out, HLT.out, hown, hb1⟩
          case measure => simp [intOf]

end Go.Proofs.Ytkopdkamhkmefaa
