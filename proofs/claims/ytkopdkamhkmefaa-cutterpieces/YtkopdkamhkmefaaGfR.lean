/- Degree, coefficients, of of the reference. -/
import Derived.Test.YtkopdkamhkmefaaGfN
import Derived.Test.YtkopdkamhkmefaaGfP
namespace Go.Proofs.Ytkopdkamhkmefaa
set_option maxRecDepth 100000
open Go Go.RowKit
set_option linter.unusedVariables false
set_option linter.unusedSimpArgs false

theorem int_inf : (Try.prog.info? 3).map (fun i => (i.zero, i.size, i.bytes)) = some (some (.int .i64 0), 1, 8) := by kernel_rfl
theorem int_sz : (Try.prog.info? 3).map (·.size) = some 1 := by kernel_rfl

theorem rdegree_any (a : Nat) (w : World) (h : a < 18446744073709551616) :
    Calls Try.prog 33 #[.int .u64 a] w fun e w' => e = .returned (.int .i64 ((nb2 a : Int) - 1)) ∧ w = w' := by
  have hn := nb2_le h
  obtain ⟨n, hnn⟩ : ∃ n, n = nb2 a := ⟨_, rfl⟩
  rw [← hnn] at hn ⊢
  have HN := Lib.hid hnn
  clear hnn
  go_enter Try.func33, Try.ntmps33
  go_wp2
  go_loop [0, 3] (fun x i => ∃ c k : Nat, x = .int .u64 (c : Int) ∧ i = .int .i64 ((k : Int) - 1) ∧ c < 18446744073709551616 ∧ k + nb2 c = n) (fun x _ => (intOf x).toNat)
  case atStart => exact ⟨a, 0, rfl, rfl, h, by rw [HN.out]; omega⟩
  case round =>
    obtain ⟨c, k, rfl, rfl, hc, hk⟩ := hrel
    rcases Nat.eq_zero_or_pos c with h0 | h0
    · subst h0
      rw [nb2_zero] at hk
      have hkn : k = n := by omega
      subst hkn
      go_wp2
      go_ret
      exact ⟨rfl, rfl⟩
    · have h1 := nb2_half h0 hc
      obtain ⟨c2, hc2⟩ : ∃ c2, c2 = c / 2 := ⟨_, rfl⟩
      have ec2 : (c : Int) / 2 = (c2 : Int) := by omega
      have ec3 : (c : Int).tdiv 2 = (c2 : Int) := by rw [Int.tdiv_eq_ediv_of_nonneg (by omega)]; omega
      have hlt : c2 < c := by omega
      rw [← hc2] at h1
      have HK : Hid (k + 1 + nb2 c2 = n) := by unfold Hid; omega
      have hkB : k ≤ 64 := by omega
      clear hc2 h1 hk
      go_wp2
      go_round
      case rel => exact ⟨c2, k + 1, rfl, by go_num, by omega, HK.out⟩
      case measure => simp [intOf]; omega

set_option maxHeartbeats 1000000 in
theorem coef_any (a : Nat) (w : World) (h : a < 18446744073709551616) :
    Calls Try.prog 42 #[.int .u64 a] w (RetRow 3 w (nb2 a) (is (bts a))) := by
  obtain ⟨i0, hi, hz0, hz1, hz2⟩ := info_parts int_inf
  have hn := nb2_le h
  obtain ⟨n, hnn⟩ : ∃ n, n = nb2 a := ⟨_, rfl⟩
  have HL : Hid ((bts a).length = n) := by unfold Hid; rw [bts_len a h, hnn]
  rw [← hnn] at hn ⊢
  obtain ⟨X, hX⟩ : ∃ X, X = bts a := ⟨_, rfl⟩
  rw [← hX] at HL ⊢
  have HX := Lib.hid hX
  clear hnn hX
  go_enter Try.func42, Try.ntmps42
  go_wp2
  go_loopw [0, 3] (fun x v wr => ∃ (c k : Nat) (z : List Nat), x = .int .u64 (c : Int) ∧ c < 18446744073709551616 ∧ z.length = k ∧ z ++ bts c = X ∧ wr.ownsRow w.heap.size 3 1 v k (is z) ∧ Below w.heap.size w wr) (fun x _ _ => (intOf x).toNat)
  case atStart => exact ⟨a, 0, [], rfl, h, rfl, by rw [HX.out]; rfl, World.ownsRow_nil _ _ _ _, Below.refl _ _⟩
  case round =>
    obtain ⟨c, k, z, rfl, hc, hzl, hzX, hown, hbel⟩ := hrel
    rcases Nat.eq_zero_or_pos c with h0 | h0
    · subst h0
      rw [bts_zero, List.append_nil] at hzX
      have hkn : k = n := by rw [← hzl, hzX, HL.out]
      go_wp2
      go_ret
      exact retRow hkn (by rw [hzX]) hown hbel
    · have hst := bts_step c h0
      obtain ⟨c2, hc2⟩ : ∃ c2, c2 = c / 2 := ⟨_, rfl⟩
      obtain ⟨q, hq⟩ : ∃ q, q = c % 2 := ⟨_, rfl⟩
      have ec2 : (c : Int) / 2 = (c2 : Int) := by omega
      have eq2 : (c : Int) % 2 = (q : Int) := by omega
      have ec3 : (c : Int).tdiv 2 = (c2 : Int) := by rw [Int.tdiv_eq_ediv_of_nonneg (by omega)]; omega
      have eq3 : (c : Int).tmod 2 = (q : Int) := by rw [Int.tmod_eq_emod_of_nonneg (by omega)]; omega
      have hql : q < 2 := by omega
      have hlt : c2 < c := by omega
      rw [hst, ← hc2, ← hq] at hzX
      have HZ : Hid (z ++ [q] ++ bts c2 = X) := by unfold Hid; rw [List.append_assoc]; exact hzX
      have hkB : k ≤ 64 := by
        have h1 := congrArg List.length hzX
        rw [List.length_append, HL.out, hzl] at h1
        omega
      have HZL := Lib.hid hzl
      have hsz := hbel.size
      clear hc2 hq hzX hst hzl
      go_wp2_with (at_builtin; refine wpList_append_own_at _ rfl _ _ 28 rfl w.heap.size 3 i0 (.int .i64 0) 1 8 Try.underlying28 hi hz0 hz1 hz2 rfl (by decide) _ _ _ rfl (hown.alloc _) ⟨wr.heap.size, 0, none⟩ 1 1 _ rfl rfl (cell_one_new _ _ _) (by simp [Value.oneCell']) (by unfold maxLen; omega) (by omega) (by simp; omega) ?_; intro v' w1 hown' hgrow hnil hat)
      have hb1 := below_app1 hbel (Nat.le_refl _) hown hgrow
      have HO := Lib.hid hown'
      clear hown' hgrow hnil hat hown
      go_wp2
      go_roundw
      case rel => exact ⟨c2, k + 1, z ++ [q], rfl, by omega, by rw [List.length_append, HZL.out]; rfl, HZ.out, by rw [is_append]; exact HO.out, hb1⟩
      case measure => simp [intOf]; omega

set_option maxHeartbeats 1000000 in
theorem of12_any (x : List Nat) (w : World) (B : Nat) (A : Option Addr) (n c : Nat) (h : Sl w B A n (is x)) (hx : Bt x) (hn : n ≤ 64) :
    Calls Try.prog 40 #[.slice A n c] w fun e w' => e = .returned (.int .u64 (bv 2 x : Nat)) ∧ w = w' := by
  have hnl : n = x.length := by rw [← h.1, is_len]
  obtain ⟨V, hV⟩ : ∃ V, V = bv 2 x := ⟨_, rfl⟩
  rw [← hV]
  have HV := Lib.hid hV
  have HNL := Lib.hid hnl
  have HX := Lib.hid hx
  have HS := Lib.hid h
  clear hV hnl hx h
  go_enter Try.func40, Try.ntmps40
  go_wp2
  go_loop [3, 4] (fun t i => ∃ k s : Nat, k ≤ n ∧ i = .int .i64 ((k : Int) - 1) ∧ t = .int .u64 (s : Int) ∧ s = bv 2 (x.drop k)) (fun _ i => (intOf i + 1).toNat)
  case atStart => exact ⟨n, 0, Nat.le_refl _, rfl, rfl, by rw [HNL.out, List.drop_length]; rfl⟩
  case round =>
    obtain ⟨k, s, hk, rfl, rfl, hs⟩ := hrel
    rcases Nat.eq_zero_or_pos k with h0 | h0
    · subst h0
      have HE : Hid (V = s) := by unfold Hid; rw [HV.out, hs, List.drop_zero]
      clear hs
      go_wp2
      go_ret
      exact ⟨ret_int (by rw [HE.out]), rfl⟩
    · obtain ⟨j, rfl⟩ : ∃ j, k = j + 1 := ⟨k - 1, by omega⟩
      obtain ⟨ad, rfl, _, hc⟩ := HS.out.2 (by omega)
      obtain ⟨y, hy⟩ : ∃ y, y = x.getD j 0 := ⟨_, rfl⟩
      have hc1 := hc j _ (is_gD (by rw [← HNL.out]; omega))
      rw [← hy] at hc1
      have hyl : y < 2 := by rw [hy]; exact HX.out.at_ j
      have hd := bv_down x j (by rw [← HNL.out]; omega)
      rw [← hs, ← hy] at hd
      have hsl : s < 9223372036854775808 := by
        have h1 := (HX.out.drop (j + 1)).lt
        rw [List.length_drop, ← HNL.out, ← hs] at h1
        exact Nat.lt_of_lt_of_le h1 (Nat.pow_le_pow_right (n := 2) (by decide) (show n - (j + 1) ≤ 63 by omega))
      obtain ⟨s2, hs2⟩ : ∃ s2, s2 = s * 2 + y := ⟨_, rfl⟩
      rw [← hs2] at hd
      have es2 : (s : Int) * 2 + (y : Int) = (s2 : Int) := by omega
      have HD := Lib.hid hd
      have ej : ((j + 1 : Nat) : Int) - 1 = (j : Int) := by omega
      have j0 : (0 : Int) ≤ (j : Int) := by omega
      have j1 : (j : Int) < (n : Int) := by omega
      clear hs hy hd hs2 hc h0
      rw [ej]
      go_wp2
      go_round
      case rel => exact ⟨j, s2, by omega, rfl, by go_num, HD.out⟩
      case measure => simp [intOf]

end Go.Proofs.Ytkopdkamhkmefaa
