/- Right, Of of the reference of package rolling. -/
import Derived.Test.YtkopdkamhkmefaaRolG
import Derived.Test.YtkopdkamhkmefaaGfT
namespace Go.Proofs.Ytkopdkamhkmefaa
set_option maxRecDepth 100000
open Go Go.RowKit
set_option linter.unusedVariables false
set_option linter.unusedSimpArgs false

/-- May there be a fingerprint by m? -/
def rolOk (m : Nat) : Bool := decide (10 ≤ nb2 m) && decide (nb2 m ≤ 54)
theorem rolOk_deg {m : Nat} (h : rolOk m = true) (hm : m < 18446744073709551616) : ∃ d, Deg m d ∧ 9 ≤ d ∧ d ≤ 53 ∧ nb2 m = d + 1 ∧ 0 < m := by
  unfold rolOk at h
  simp only [Bool.and_eq_true, decide_eq_true_eq] at h
  have h0 : 0 < m := by
    rcases Nat.eq_zero_or_pos m with h1 | h1
    · subst h1; rw [nb2_zero] at h; omega
    · exact h1
  obtain ⟨h1, h2, _⟩ := deg_nb2 h0 hm
  exact ⟨nb2 m - 1, h1, by omega, by omega, by omega, h0⟩

theorem rright13_any (m : Nat) (w : World) (hm : m < 18446744073709551616) :
    Calls Try.prog 21 #[.int .u64 m] w fun e w' => e = .returned (.bool (rolOk m)) ∧ w = w' := by
  have hn := nb2_le hm
  have HD := Lib.hid (rdegree_any m w hm)
  have HR : Hid (rolOk m = (decide (10 ≤ nb2 m) && decide (nb2 m ≤ 54))) := rfl
  obtain ⟨r, hr⟩ : ∃ r, r = rolOk m := ⟨_, rfl⟩
  obtain ⟨n, hnn⟩ : ∃ n, n = nb2 m := ⟨_, rfl⟩
  rw [← hnn] at HD HR hn
  rw [← hr] at HR ⊢
  clear hnn hr
  rcases (show n < 10 ∨ (10 ≤ n ∧ n ≤ 54) ∨ (10 ≤ n ∧ 54 < n) by omega) with h1 | ⟨h1, h2⟩ | ⟨h1, h2⟩
  · have HF : Hid (r = false) := by unfold Hid; rw [HR.out]; simp; omega
    have q1 : ¬ (9 : Int) ≤ (n : Int) - 1 := by omega
    go_enter Try.func21, Try.ntmps21
    go_wp2_with fail
    refine HD.out.mono ?_
    rintro e w1 ⟨rfl, rfl⟩
    go_wp2
    go_ret
    exact ⟨ret_bool (by rw [HF.out]), rfl⟩
  · have HF : Hid (r = true) := by unfold Hid; rw [HR.out]; simp; omega
    have q1 : (9 : Int) ≤ (n : Int) - 1 := by omega
    have q2 : (n : Int) - 1 ≤ 53 := by omega
    go_enter Try.func21, Try.ntmps21
    go_wp2_with fail
    refine HD.out.mono ?_
    rintro e w1 ⟨rfl, rfl⟩
    go_wp2
    go_ret
    exact ⟨ret_bool (by rw [HF.out]), rfl⟩
  · have HF : Hid (r = false) := by unfold Hid; rw [HR.out]; simp; omega
    have q1 : (9 : Int) ≤ (n : Int) - 1 := by omega
    have q2 : ¬ (n : Int) - 1 ≤ 53 := by omega
    have q3 : decide ((n : Int) - 1 ≤ 53) = false := decide_eq_false q2
    go_enter Try.func21, Try.ntmps21
    go_wp2_with fail
    refine HD.out.mono ?_
    rintro e w1 ⟨rfl, rfl⟩
    go_wp2
    go_ret
    refine ⟨?_, rfl⟩
    rw [HF.out]
    first | done | rfl | exact ret_bool q3 | exact congrArg (fun b => Ending.returned (Value.bool b)) q3

theorem rmod_to (a m d V : Nat) (w : World) (ha : a < 18446744073709551616) (hm : m < 18446744073709551616) (hd : Deg m d) (hV : V = pr m d a) :
    Calls Try.prog 38 #[.int .u64 a, .int .u64 m] w fun e w' => e = .returned (.int .u64 (V : Nat)) ∧ Below w.heap.size w w' := by
  refine (rmod_any a m w ha hm hd.pos).mono ?_
  rintro e w' ⟨rfl, hb⟩
  rw [mdV_eq hd hm, hV]
  exact ⟨rfl, hb⟩

/-- The bytes from s on, k of them. -/
def cutW (l : List UInt8) (k : Nat) : List UInt8 := (lastW l).take k
theorem cutW_next (l : List UInt8) (k : Nat) (b : UInt8) (h : (lastW l)[k]? = some b) : val (cutW l (k + 1)) = val (cutW l k) * 256 + b.toNat := by
  unfold cutW
  have hk : k < (lastW l).length := by
    rcases Nat.lt_or_ge k (lastW l).length with h1 | h1
    · exact h1
    · rw [List.getElem?_eq_none h1] at h; cases h
  rw [List.getElem?_eq_getElem hk] at h
  injection h with h
  rw [val_take _ _ hk, h]
theorem lastW_at (l : List UInt8) (k : Nat) : (lastW l)[k]? = l[l.length - 16 + k]? := by unfold lastW; rw [List.getElem?_drop]

set_option maxRecDepth 100000 in
set_option maxHeartbeats 2000000 in
theorem rof13_any (m : Nat) (l : List UInt8) (w : World) (B : Nat) (A : Option Addr) (n c d : Nat) (h : Sl w B A n (cb l)) (hB : B ≤ w.heap.size) (hn : n ≤ 1000000) (hm : m < 18446744073709551616) (hd : Deg m d) (hd53 : d ≤ 53) :
    Calls Try.prog 35 #[.int .u64 m, .slice A n c] w fun e w' => e = .returned (.int .u64 (fpr m d l : Nat)) ∧ Below w.heap.size w w' := by
  have hnl : n = l.length := by rw [← h.1, cb_len]
  obtain ⟨V, hV⟩ : ∃ V, V = fpr m d l := ⟨_, rfl⟩
  rw [← hV]
  have HV := Lib.hid hV
  have HNL := Lib.hid hnl
  have HD := Lib.hid hd
  have HS := Lib.hid h
  obtain ⟨s, hs⟩ : ∃ s, s = n - 16 := ⟨_, rfl⟩
  have es : max (0 : Int) ((n : Int) - 16) = (s : Int) := by omega
  have hsn : s ≤ n := by omega
  have hs16 : n - s ≤ 16 := by omega
  have HSS : Hid (s = l.length - 16) := by unfold Hid; omega
  clear hV hnl hd h hs
  go_enter Try.func35, Try.ntmps35
  go_wp2
  try rw [es]
  go_loopw [5, 6] (fun x i wr => ∃ k c : Nat, s + k ≤ n ∧ i = .int .i64 ((s + k : Nat) : Int) ∧ x = .int .u64 (c : Int) ∧ c = pr m d (val (cutW l k)) ∧ Below w.heap.size w wr) (fun _ i _ => n - (intOf i).toNat)
  case atStart => exact ⟨0, 0, by omega, by simp, rfl, (pr_zero m d).symm, Below.refl _ _⟩
  case round =>
    obtain ⟨k, c, hk, rfl, rfl, hc, hb⟩ := hrel
    obtain ⟨i, hi⟩ : ∃ i, i = s + k := ⟨_, rfl⟩
    rw [← hi]
    by_cases hlt : i < n
    · have hil : i < l.length := by have := HNL.out; omega
      obtain ⟨ad, rfl, hbl, hcw⟩ := HS.out.byte hil
      obtain ⟨b, hbb⟩ : ∃ b, b = l[i].toNat := ⟨_, rfl⟩
      have hbl2 : b < 256 := by rw [hbb]; exact l[i].toNat_lt
      rw [← hbb] at hcw
      have hcell : wr.cell? (ad.add i) = some (.int .u8 (b : Int)) := (hb.cell (by rw [add_block]; omega)).trans hcw
      have HCW := Lib.hid hcw
      clear hcw
      have HNX : Hid (val (cutW l (k + 1)) = val (cutW l k) * 256 + b) := by
        unfold Hid
        rw [hbb]
        exact cutW_next l k l[i] (by rw [lastW_at, ← HSS.out, ← hi, List.getElem?_eq_getElem hil])
      obtain ⟨v, hv⟩ : ∃ v, v = val (cutW l k) := ⟨_, rfl⟩
      rw [← hv] at HNX hc
      have HB0 : Hid (c = pr m d (bitsV v b 0)) := by unfold Hid; rw [hc, bitsV_zero v b hbl2]
      have hi0 : (0 : Int) ≤ (i : Int) := by omega
      have hi1 : (i : Int) < (n : Int) := by omega
      have HI := Lib.hid hi
      clear hc hv hbb hil hi
      go_wp2
      clear hcell
      go_loopw [5, 7] (fun x y wr => ∃ t st c : Nat, t ≤ 8 ∧ y = .int .u8 (st : Int) ∧ st = 2 ^ (8 - t) / 2 ∧ x = .int .u64 (c : Int) ∧ c = pr m d (bitsV v b t) ∧ Below w.heap.size w wr) (fun _ y _ => (intOf y).toNat)
      case atStart => exact ⟨0, 128, c, by decide, rfl, by decide, rfl, HB0.out, hb⟩
      case round =>
        clear hb
        obtain ⟨t, st, c, ht, rfl, hst, rfl, hc, hb⟩ := hrel
        by_cases ht8 : t < 8
        · have e7 : 2 ^ (8 - t) / 2 = 2 ^ (7 - t) := by rw [show 8 - t = (7 - t) + 1 by omega, Nat.pow_succ]; omega
          rw [e7] at hst
          have hst1 : 1 ≤ st := by rw [hst]; exact Nat.one_le_two_pow
          have hst2 : st ≤ 128 := by rw [hst]; exact Nat.pow_le_pow_right (n := 2) (by decide) (show 7 - t ≤ 7 by omega)
          obtain ⟨q, hq⟩ : ∃ q, q = b / st := ⟨_, rfl⟩
          obtain ⟨z, hz⟩ : ∃ z, z = q % 2 := ⟨_, rfl⟩
          have hNX2 := pr_bit HD.out (bitsV v b t) z (by omega)
          rw [hz, hq, hst, bitsV_next v b t ht8, ← hst, ← hq, ← hz, ← hc] at hNX2
          have eq1 : (b : Int) / (st : Int) = (q : Int) := by rw [hq]; simp
          have eq2 : (b : Int).tdiv (st : Int) = (q : Int) := by rw [Int.tdiv_eq_ediv_of_nonneg (by omega)]; exact eq1
          have hql : q < 256 := by rw [hq]; exact Nat.lt_of_le_of_lt (Nat.div_le_self _ _) hbl2
          have ez : (q : Int) % 2 = (z : Int) := by omega
          have hzl : z < 2 := by omega
          have hcl : c < 9007199254740992 := by
            rw [hc]
            exact Nat.lt_of_lt_of_le (pr_lt HD.out _) (Nat.pow_le_pow_right (n := 2) (by decide) hd53)
          obtain ⟨y, hy⟩ : ∃ y, y = 2 * c + z := ⟨_, rfl⟩
          have ey : (c : Int) * 2 + (z : Int) = (y : Int) := by omega
          have hyl : y < 18446744073709551616 := by omega
          rw [← hy] at hNX2
          obtain ⟨c2, hc2⟩ : ∃ c2, c2 = pr m d (bitsV v b (t + 1)) := ⟨_, rfl⟩
          rw [← hc2] at hNX2
          have HNX2 := Lib.hid hNX2
          have HC2 := Lib.hid hc2
          obtain ⟨s2, hs2⟩ : ∃ s2, s2 = st / 2 := ⟨_, rfl⟩
          have es2 : (st : Int) / 2 = (s2 : Int) := by omega
          have HS2 : Hid (s2 = 2 ^ (8 - (t + 1)) / 2) := by unfold Hid; rw [hs2, hst, show 8 - (t + 1) = 7 - t by omega]
          have hsl : s2 < st := by omega
          have st0 : ¬ (st : Int) = 0 := by omega
          have st1 : ¬ st = 0 := by omega
          have hcell2 : wr.cell? (ad.add i) = some (.int .u8 (b : Int)) := (hb.cell (by rw [add_block]; omega)).trans HCW.out
          clear hq hz hc hy hc2 hs2 hst e7 hNX2
          go_wp2_with fail
          refine (rmod_to y m d c2 _ hyl hm HD.out HNX2.out.symm).mono ?_
          rintro e w5 ⟨rfl, hb5⟩
          replace hb := next hb hb5
          clear hb5 hcell2
          go_wp2
          go_roundw
          case rel => exact ⟨t + 1, s2, c2, by omega, by first | rfl | go_num, HS2.out, rfl, HC2.out, hb⟩
          case measure => simp [intOf]; omega
        · have ht9 : t = 8 := by omega
          subst ht9
          have hst0 : st = 0 := by rw [hst]
          subst hst0
          have HC : Hid (c = pr m d (val (cutW l (k + 1)))) := by unfold Hid; rw [hc, bitsV_all, HNX.out]
          clear hc hst
          go_wp2
          go_roundw
          case rel => exact ⟨k + 1, c, by have := HI.out; omega, by rw [← Nat.add_assoc, ← HI.out]; go_num, rfl, HC.out, hb⟩
          case measure => first | (simp [intOf]; omega) | simp [intOf]
    · have HE : Hid (V = c) := by
        unfold Hid
        rw [HV.out, hc]
        unfold fpr cutW
        rw [List.take_of_length_le (by rw [lastW_len]; have := HNL.out; omega)]
      have q9 : ¬ (i : Int) < (n : Int) := by omega
      clear hc
      go_wp2
      go_ret
      exact ⟨ret_int (by rw [HE.out]), hb⟩

end Go.Proofs.Ytkopdkamhkmefaa
