/- at, sum, product of the reference: digits to the base 256. -/
import Derived.Test.YtlnoopmblmkgkaaGreatDoorLO
namespace Go.Proofs.YtlnoopmblmkgkaaGreatDoor
set_option maxRecDepth 100000
open Go.RowKit
set_option linter.unusedVariables false
set_option linter.unusedSimpArgs false

theorem int_info : (Tryz.prog.info? 3).map (fun i => (i.zero, i.size, i.bytes)) = some (some (.int .i64 0), 1, 8) := by kernel_rfl
theorem int_size : (Tryz.prog.info? 3).map (·.size) = some 1 := by kernel_rfl

/-- Digits below 256. -/
def Dg (x : List Nat) : Prop := ∀ d ∈ x, d < 256
theorem Dg.at_ {x : List Nat} (h : Dg x) (k : Nat) : x.getD k 0 < 256 := by
  rw [List.getD_eq_getElem?_getD]
  rcases Nat.lt_or_ge k x.length with hk | hk
  · rw [List.getElem?_eq_getElem hk]; exact h _ (List.getElem_mem _)
  · rw [List.getElem?_eq_none hk]; simp
theorem Dg.snoc {x : List Nat} (h : Dg x) {d : Nat} (hd : d < 256) : Dg (x ++ [d]) := by
  intro e he
  rcases List.mem_append.1 he with h1 | h1
  · exact h e h1
  · rw [List.mem_singleton.1 h1]; exact hd
theorem Dg.set {x : List Nat} (h : Dg x) (k : Nat) {d : Nat} (hd : d < 256) : Dg (x.set k d) := by
  intro e he
  rcases List.mem_or_eq_of_mem_set he with h1 | h1
  · exact h e h1
  · rw [h1]; exact hd
theorem dg_nil : Dg [] := fun d hd => by simp at hd
theorem dg_zeros (n : Nat) : Dg (List.replicate n 0) := fun d hd => by rw [List.eq_of_mem_replicate hd]; omega
theorem Dg.take {x : List Nat} (h : Dg x) (k : Nat) : Dg (x.take k) := fun d hd => h d (List.mem_of_mem_take hd)
theorem Dg.drop {x : List Nat} (h : Dg x) (k : Nat) : Dg (x.drop k) := fun d hd => h d (List.mem_of_mem_drop hd)
theorem Dg.lt {x : List Nat} (h : Dg x) : bv 256 x < 256 ^ x.length := bv_lt (by decide) x h
theorem getD_lt (x : List Nat) (k : Nat) (h : k < x.length) : x.getD k 0 = x[k] := by rw [List.getD_eq_getElem?_getD, List.getElem?_eq_getElem h, Option.getD_some]
theorem getD_ge (x : List Nat) (k : Nat) (h : x.length ≤ k) : x.getD k 0 = 0 := by rw [List.getD_eq_getElem?_getD, List.getElem?_eq_none h]; rfl
theorem is_getD {x : List Nat} {j : Nat} (h : j < x.length) : (is x)[j]? = some (.int .i64 (x.getD j 0 : Nat)) := by rw [is_at h, getD_lt x j h]
theorem bv_take_all (b : Nat) (x : List Nat) (k : Nat) : bv b (x.take (k + 1)) = bv b (x.take k) + b ^ k * x.getD k 0 := by
  rcases Nat.lt_or_ge k x.length with hk | hk
  · rw [bv_take _ _ _ hk, getD_lt _ _ hk]
  · rw [List.take_of_length_le (by omega), List.take_of_length_le hk, getD_ge _ _ hk]; simp

theorem rat_any (x : List Nat) (i : Nat) (w : World) (B : Nat) (A : Option Addr) (n c : Nat) (h : Sl w B A n (is x)) (hn : n ≤ 1000000) (hi : i ≤ 1000000) :
    Calls Tryz.prog 114 #[.slice A n c, .int .i64 i] w fun e w' => e = .returned (.int .i64 (x.getD i 0 : Nat)) ∧ w = w' := by
  have hnl : n = x.length := by rw [← h.1, is_len]
  by_cases hlt : i < n
  · obtain ⟨ad, rfl, _, hc⟩ := h.2 (by omega)
    have hc1 := hc i _ (is_getD (by omega))
    obtain ⟨y, hy⟩ : ∃ y, y = x.getD i 0 := ⟨_, rfl⟩
    rw [← hy] at hc1 ⊢
    have q : (i : Int) < (n : Int) := by omega
    have q0 : (0 : Int) ≤ (i : Int) := by omega
    clear hnl hc hy
    go_enter Tryz.func114, Tryz.ntmps114
    go_wp2
    go_ret
    exact ⟨rfl, rfl⟩
  · have hy : x.getD i 0 = 0 := getD_ge _ _ (by omega)
    rw [hy]
    have q : ¬ (i : Int) < (n : Int) := by omega
    clear hnl hy
    go_enter Tryz.func114, Tryz.ntmps114
    go_wp2
    go_ret
    exact ⟨rfl, rfl⟩

/-- Digits in new memory. -/
def RetDg (w : World) (n v : Nat) (e : Ending) (w' : World) : Prop := ∃ (z : List Nat) (A : Option Addr) (c : Nat), e = .returned (.slice A n c) ∧ z.length = n ∧ Dg z ∧ bv 256 z = v ∧ w'.ownsRow w.heap.size 3 1 (.slice A n c) n (is z) ∧ Below w.heap.size w w'

theorem sum_step (done a b : List Nat) (k c : Nat) (hl : done.length = k) (h : bv 256 done + 256 ^ k * c = bv 256 (a.take k) + bv 256 (b.take k)) :
    bv 256 (done ++ [(a.getD k 0 + b.getD k 0 + c) % 256]) + 256 ^ (k + 1) * ((a.getD k 0 + b.getD k 0 + c) / 256) = bv 256 (a.take (k + 1)) + bv 256 (b.take (k + 1)) := by
  rw [bv_take_all, bv_take_all, bv_snoc, hl, Nat.pow_succ, Nat.mul_assoc]
  generalize a.getD k 0 = p at *
  generalize b.getD k 0 = q at *
  have e : (p + q + c) % 256 + 256 * ((p + q + c) / 256) = p + q + c := Nat.mod_add_div _ _
  have e2 := congrArg (256 ^ k * ·) e
  simp only [Nat.mul_add] at e2
  omega

set_option maxHeartbeats 1000000 in
theorem rsum_any (a b : List Nat) (w : World) (B B' : Nat) (A A' : Option Addr) (n m c c' : Nat) (ha : Sl w B A n (is a)) (hb : Sl w B' A' m (is b)) (da : Dg a) (db : Dg b) (hB : B ≤ w.heap.size) (hB' : B' ≤ w.heap.size) (hn : n ≤ 1000) (hm : m ≤ 1000) (N : Nat) (hN : N = Nat.max n m + 1) :
    Calls Tryz.prog 113 #[.slice A n c, .slice A' m c'] w (RetDg w N (bv 256 a + bv 256 b)) := by
  obtain ⟨i0, hi, hz0, hz1, hz2⟩ := info_parts int_info
  have hnl : n = a.length := by rw [← ha.1, is_len]
  have hml : m = b.length := by rw [← hb.1, is_len]
  have hnN : n ≤ Nat.max n m := Nat.le_max_left ..
  have hmN : m ≤ Nat.max n m := Nat.le_max_right ..
  have hNB : Nat.max n m ≤ 1000 := Nat.max_le.2 ⟨hn, hm⟩
  have hcase : ((n : Int) < (m : Int) ∧ N = m + 1) ∨ (¬ (n : Int) < (m : Int) ∧ N = n + 1) := by rw [hN]; unfold Nat.max; omega
  obtain ⟨V, hV⟩ : ∃ V, V = bv 256 a + bv 256 b := ⟨_, rfl⟩
  have HV := Lib.hid hV
  have HDA := Lib.hid da
  have HDB := Lib.hid db
  have HNL := Lib.hid hnl
  have HML := Lib.hid hml
  have hN1 : n < N := by omega
  have hN2 : m < N := by omega
  have hN3 : N ≤ 1001 := by omega
  rw [← hV]
  clear hV da db hnl hml hnN hmN hNB hN
  go_enter Tryz.func113, Tryz.ntmps113
  go_wp2
  go_loopw [5, 6, 7] (fun v t i wr => ∃ (k d : Nat) (z : List Nat), k ≤ N ∧ i = .int .i64 k ∧ t = .int .i64 (d : Int) ∧ d ≤ 1 ∧ z.length = k ∧ Dg z ∧ bv 256 z + 256 ^ k * d = bv 256 (a.take k) + bv 256 (b.take k) ∧ wr.ownsRow w.heap.size 3 1 v k (is z) ∧ Below w.heap.size w wr) (fun _ _ i _ => N - (intOf i).toNat)
  case atStart => exact ⟨0, 0, [], Nat.zero_le _, rfl, rfl, by omega, rfl, dg_nil, by simp [bv], World.ownsRow_nil _ _ _ _, Below.refl _ _⟩
  case round =>
    obtain ⟨k, d, z, hk, rfl, rfl, hd, hzl, hzd, hzv, hown, hbel⟩ := hrel
    by_cases hlt : k < N
    · have HST := Lib.hid (sum_step z a b k d hzl hzv)
      obtain ⟨p, hp⟩ : ∃ p, p = a.getD k 0 := ⟨_, rfl⟩
      obtain ⟨q, hq⟩ : ∃ q, q = b.getD k 0 := ⟨_, rfl⟩
      have hpl : p < 256 := by rw [hp]; exact HDA.out.at_ k
      have hql : q < 256 := by rw [hq]; exact HDB.out.at_ k
      rw [← hp, ← hq] at HST
      obtain ⟨t, ht⟩ : ∃ t, t = p + q + d := ⟨_, rfl⟩
      rw [← ht] at HST
      have htl : t < 512 := by omega
      have HT : Hid ((p : Int) + (q : Int) + (d : Int) = (t : Int)) := (by unfold Hid; omega)
      have HP := Lib.hid hp
      have HQ := Lib.hid hq
      have HZL := Lib.hid hzl
      have HZD := Lib.hid hzd
      have hsz := hbel.size
      have hsa := ha.below (hbel.mono hB)
      have hsb := hb.below (hbel.mono hB')
      clear hp hq ht hzl hzd hzv ha hb
      rcases hcase with ⟨hc1, hc2⟩ | ⟨hc1, hc2⟩
      all_goals
        first | (have hk1 : (k : Int) < (m : Int) + 1 := by omega) | (have hk1 : (k : Int) < (n : Int) + 1 := by omega)
        clear hc2
        go_wp2_with fail
        refine (rat_any a k _ _ _ _ _ hsa (by omega) (by omega)).mono ?_
        rintro e w' ⟨rfl, rfl⟩
        rw [← HP.out]
        go_wp2_with fail
        refine (rat_any b k _ _ _ _ _ hsb (by omega) (by omega)).mono ?_
        rintro e w' ⟨rfl, rfl⟩
        rw [← HQ.out]
        have et := HT.out
        obtain ⟨t2, ht2⟩ : ∃ t2, t2 = t % 256 := ⟨_, rfl⟩
        obtain ⟨t3, ht3⟩ : ∃ t3, t3 = t / 256 := ⟨_, rfl⟩
        have et2 : (t : Int) % 256 = (t2 : Int) := by omega
        have et3 : (t : Int) / 256 = (t3 : Int) := by omega
        have ht2l : t2 < 256 := by omega
        have ht3l : t3 ≤ 1 := by omega
        rw [← ht2, ← ht3] at HST
        clear ht2 ht3
        clear hsa hsb
        go_wp2_with (at_builtin; refine wpList_append_own_at _ rfl _ _ 75 rfl w.heap.size 3 i0 (.int .i64 0) 1 8 Tryz.underlying75 hi hz0 hz1 hz2 rfl (by decide) _ _ _ rfl (hown.alloc _) ⟨wr.heap.size, 0, none⟩ 1 1 _ rfl rfl (cell_one_new _ _ _) (by simp [Value.oneCell']) (by unfold maxLen; omega) (by omega) (by simp; omega) ?_; intro v' w1 hown' hgrow hnil hat)
        have hb1 := below_app1 hbel (Nat.le_refl _) hown hgrow
        have HO := Lib.hid hown'
        clear hown' hgrow hnil hat hown
        go_wp2
        go_roundw
        case rel =>
          refine ⟨k + 1, t3, z ++ [t2], by omega, by go_num, by go_num, by omega, by simp [HZL.out], HZD.out.snoc (by omega), HST.out, ?_, hb1⟩
          rw [is_append]
          exact HO.out
        case measure => simp [intOf]; omega
    · have HK : Hid (k = N) := (by omega : k = N)
      have HV2 : Hid (bv 256 z = V) := by
        unfold Hid
        have h1 := HNL.out
        have h2 := HML.out
        rw [List.take_of_length_le (by omega), List.take_of_length_le (by omega), ← HV.out] at hzv
        have h3 : V < 256 ^ k := by
          have k1 := HDA.out.lt
          have k2 := HDB.out.lt
          have k3 : 256 ^ a.length ≤ 256 ^ (k - 1) := Nat.pow_le_pow_right (by decide) (by omega)
          have k4 : 256 ^ b.length ≤ 256 ^ (k - 1) := Nat.pow_le_pow_right (by decide) (by omega)
          have k5 : 256 ^ k = 256 ^ (k - 1) * 256 := by rw [← Nat.pow_succ]; congr 1; omega
          rw [HV.out]
          omega
        rcases (show d = 0 ∨ d = 1 by omega) with rfl | rfl
        · omega
        · omega
      clear hzv
      rcases hcase with ⟨hc1, hc2⟩ | ⟨hc1, hc2⟩
      all_goals
        first | (have hk1 : ¬ (k : Int) < (m : Int) + 1 := by omega) | (have hk1 : ¬ (k : Int) < (n : Int) + 1 := by omega)
        clear hc2
        go_wp2
        go_ret
        obtain ⟨A9, c9, rfl⟩ := own_form hown
        rw [HK.out] at hown hzl ⊢
        exact ⟨z, A9, c9, rfl, hzl, hzd, HV2.out, hown, hbel⟩

end Go.Proofs.YtlnoopmblmkgkaaGreatDoor

namespace Go.Proofs.YtlnoopmblmkgkaaGreatDoor
set_option maxRecDepth 100000
open Go.RowKit
set_option linter.unusedVariables false
set_option linter.unusedSimpArgs false

/-- How a row of the product stands. -/
structure Prow (z b : List Nat) (N P0 x i k c : Nat) : Prop where
  len : z.length = N
  dg : Dg z
  val : bv 256 z + 256 ^ (i + k) * c = P0 + 256 ^ i * (x * bv 256 (b.take k))
  car : c ≤ 255
theorem Prow.step {z b : List Nat} {N P0 x i k c t : Nat} (h : Prow z b N P0 x i k c) (hk : i + k < N) (hx : x < 256) (db : Dg b) (ht : t = z.getD (i + k) 0 + x * b.getD k 0 + c) :
    Prow (z.set (i + k) (t % 256)) b N P0 x i (k + 1) (t / 256) := by
  have hl : i + k < z.length := by rw [h.len]; exact hk
  have h1 := bv_set 256 z (i + k) (t % 256) hl
  have h2 := h.dg.at_ (i + k)
  have h3 := db.at_ k
  have h4 : x * b.getD k 0 ≤ 65025 := Nat.le_trans (Nat.mul_le_mul (show x ≤ 255 by omega) (show b.getD k 0 ≤ 255 by omega)) (by omega)
  have hc := h.car
  refine ⟨by rw [List.length_set, h.len], h.dg.set _ (by omega), ?_, by omega⟩
  rw [← getD_lt _ _ hl] at h1
  rw [bv_take_all, ← Nat.add_assoc, Nat.pow_succ, Nat.mul_assoc]
  have e : t % 256 + 256 * (t / 256) = t := Nat.mod_add_div _ _
  have e2 := congrArg (256 ^ (i + k) * ·) e
  simp only [Nat.mul_add] at e2
  have e3 := congrArg (256 ^ (i + k) * ·) ht
  simp only [Nat.mul_add] at e3
  have hv := h.val
  have e4 : 256 ^ i * (x * (bv 256 (b.take k) + 256 ^ k * b.getD k 0)) = 256 ^ i * (x * bv 256 (b.take k)) + 256 ^ (i + k) * (x * b.getD k 0) := by
    rw [Nat.mul_add, Nat.mul_add, Nat.pow_add, Nat.mul_assoc, Nat.mul_left_comm x]
  rw [e4]
  omega
theorem Prow.done {z a b : List Nat} {N i k c : Nat} (h : Prow z b N (bv 256 (a.take i) * bv 256 b) (a.getD i 0) i k c) (hk : i + k = N) (da : Dg a) (db : Dg b) (hi : i < a.length) (hN : N = a.length + b.length + 1) :
    bv 256 z = bv 256 (a.take (i + 1)) * bv 256 b := by
  have hv := h.val
  rw [show b.take k = b from List.take_of_length_le (by omega), ← Nat.mul_assoc, ← Nat.add_mul, ← bv_take_all, hk] at hv
  have h1 : bv 256 (a.take (i + 1)) < 256 ^ (i + 1) := by
    have := (da.take (i + 1)).lt
    rwa [List.length_take, Nat.min_eq_left (by omega)] at this
  have h2 := db.lt
  have h3 : bv 256 (a.take (i + 1)) * bv 256 b < 256 ^ N := by
    refine Nat.lt_of_le_of_lt (Nat.mul_le_mul (Nat.le_of_lt h1) (Nat.le_of_lt h2)) ?_
    rw [← Nat.pow_add]
    exact Nat.pow_lt_pow_right (by decide) (by omega)
  rcases Nat.eq_zero_or_pos c with h4 | h4
  · rw [h4] at hv; omega
  · have := Nat.mul_le_mul_left (256 ^ N) h4; omega

/-- at, its answer under a name. -/
theorem rat_to (x : List Nat) (i y : Nat) (w : World) (B : Nat) (A : Option Addr) (n c : Nat) (h : Sl w B A n (is x)) (hn : n ≤ 1000000) (hi : i ≤ 1000000) (hy : y = x.getD i 0) :
    Calls Tryz.prog 114 #[.slice A n c, .int .i64 i] w fun e w' => e = .returned (.int .i64 (y : Nat)) ∧ w' = w := by
  subst hy
  exact still_of (rat_any x i w B A n c h hn hi)

theorem made_ints {w w1 : World} {n : Nat} (hown : w1.ownsRow w.heap.size 3 1 (.slice (some ⟨w.heap.size, 0, none⟩) n n) n (madeCells (Value.int .i64 0).cells (n * 1)).toList) (hgrow : w.grownBy w1 none) :
    Bl w1 w.heap.size (is (List.replicate n 0)) 3 ∧ Below w.heap.size w w1 := by
  refine ⟨?_, (Below.refl w.heap.size w).grown hgrow (Nat.le_refl _) (by simp)⟩
  have hown1 : w1.ownsRow w.heap.size 3 1 (.slice (some ⟨w.heap.size, 0, none⟩) n n) n (is (List.replicate n 0)) := by
    rw [is_zeros]
    rw [Nat.mul_one, made_zeros] at hown
    exact hown
  exact block_of_own hown1

set_option maxRecDepth 100000 in
set_option maxHeartbeats 2000000 in
theorem rprod_any (a b : List Nat) (w : World) (B B' : Nat) (A A' : Option Addr) (n m c c' : Nat) (ha : Sl w B A n (is a)) (hb : Sl w B' A' m (is b)) (da : Dg a) (db : Dg b) (hB : B ≤ w.heap.size) (hB' : B' ≤ w.heap.size) (hn : n ≤ 1000) (hm : m ≤ 1000) (N : Nat) (hN : N = n + m + 1) :
    Calls Tryz.prog 112 #[.slice A n c, .slice A' m c'] w (RetDg w N (bv 256 a * bv 256 b)) := by
  obtain ⟨i0, hi, hz0, hz1, hz2⟩ := info_parts int_info
  have hnl : n = a.length := by rw [← ha.1, is_len]
  have hml : m = b.length := by rw [← hb.1, is_len]
  obtain ⟨V, hV⟩ : ∃ V, V = bv 256 a * bv 256 b := ⟨_, rfl⟩
  have HV := Lib.hid hV
  have HDA := Lib.hid da
  have HDB := Lib.hid db
  have HNL := Lib.hid hnl
  have HML := Lib.hid hml
  have HN : Hid (N = a.length + b.length + 1) := by unfold Hid; rw [hN, hnl, hml]
  have eN : (n : Int) + (m : Int) + 1 = (N : Int) := by omega
  have hNB : N ≤ 2001 := by omega
  have hnN : n < N := by omega
  rw [← hV]
  clear hV da db hnl hml hN
  go_enter Tryz.func112, Tryz.ntmps112
  go_wp2_with (at_make; refine wpList_make_full _ rfl _ _ 75 rfl w.heap.size 3 i0 (.int .i64 0) 1 Tryz.underlying75 hi hz0 hz1 .i64 .i64 _ _ N rfl rfl rfl rfl (by rw [hz2]; omega) (by unfold maxLen; omega) (Nat.le_refl _) ?_; intro w1 hown hgrow)
  obtain ⟨b1, hb1⟩ := made_ints hown hgrow
  clear hown hgrow
  obtain ⟨g, hg⟩ : ∃ g, g = w.heap.size := ⟨_, rfl⟩
  have HG := Lib.hid hg
  rw [← hg] at b1 ⊢
  clear hg
  go_loopw [6] (fun t wr => ∃ (i : Nat) (z : List Nat), i ≤ n ∧ t = .int .i64 i ∧ z.length = N ∧ Dg z ∧ bv 256 z = bv 256 (a.take i) * bv 256 b ∧ Bl wr g (is z) 3 ∧ Below w.heap.size w wr) (fun t _ => n - (intOf t).toNat)
  case atStart => exact ⟨0, _, Nat.zero_le _, rfl, by simp, dg_zeros N, by rw [bv_zeros]; simp [bv], b1, hb1⟩
  case round =>
    clear b1 hb1
    obtain ⟨i, z, hil, rfl, hzl, hzd, hzv, b1, hb1⟩ := hrel
    by_cases hlt : i < n
    · obtain ⟨ad, rfl, hadb, hcell⟩ := ha.2 (by omega)
      obtain ⟨x, hx⟩ : ∃ x, x = a.getD i 0 := ⟨_, rfl⟩
      have hca := hcell i _ (is_getD (by have := HNL.out; omega))
      rw [← hx] at hca
      have hxl : x < 256 := by rw [hx]; exact HDA.out.at_ i
      obtain ⟨P0, hP0⟩ : ∃ P, P = bv 256 (a.take i) * bv 256 b := ⟨_, rfl⟩
      have hrow : Prow z b N P0 x i 0 0 := ⟨hzl, hzd, by rw [hzv, hP0]; simp [bv], by omega⟩
      have HX := Lib.hid hx
      have HP0 := Lib.hid hP0
      have hi0 : (0 : Int) ≤ (i : Int) := by omega
      have hi1 : (i : Int) < (n : Int) := by omega
      clear hx hP0 hzl hzd hzv hcell
      go_wp2
      go_loopw [7, 8] (fun t u wr => ∃ (k d : Nat) (z : List Nat), i + k ≤ N ∧ u = .int .i64 k ∧ t = .int .i64 (d : Int) ∧ Prow z b N P0 x i k d ∧ Bl wr g (is z) 3 ∧ Below w.heap.size w wr) (fun _ u _ => N - (intOf u).toNat)
      case atStart => exact ⟨0, 0, z, by omega, rfl, rfl, hrow, b1, hb1⟩
      case round =>
        clear hrow b1 hb1
        obtain ⟨k, d, z, hik, rfl, rfl, hrow, b1, hb1⟩ := hrel
        obtain ⟨s, hs⟩ : ∃ s, s = i + k := ⟨_, rfl⟩
        have es : (i : Int) + (k : Int) = (s : Int) := by omega
        by_cases hsl : s < N
        · obtain ⟨y, hy⟩ : ∃ y, y = b.getD k 0 := ⟨_, rfl⟩
          obtain ⟨v, hv⟩ : ∃ v, v = z.getD s 0 := ⟨_, rfl⟩
          have hyl : y < 256 := by rw [hy]; exact HDB.out.at_ k
          have hvl : v < 256 := by rw [hv]; exact hrow.dg.at_ s
          have hdl := hrow.car
          obtain ⟨p, hp⟩ : ∃ p, p = x * y := ⟨_, rfl⟩
          have hpl : p ≤ 65025 := by rw [hp]; exact Nat.le_trans (Nat.mul_le_mul (show x ≤ 255 by omega) (show y ≤ 255 by omega)) (by omega)
          have ep : (x : Int) * (y : Int) = (p : Int) := by rw [hp]; exact (Int.natCast_mul x y).symm
          obtain ⟨t, ht⟩ : ∃ t, t = v + p + d := ⟨_, rfl⟩
          have et : (v : Int) + (p : Int) + (d : Int) = (t : Int) := by omega
          have hnext := hrow.step (t := t) (by omega) hxl HDB.out (by rw [← hs, ← hv, ← hy, ← hp]; exact ht)
          rw [← hs] at hnext
          obtain ⟨t2, ht2⟩ : ∃ t2, t2 = t % 256 := ⟨_, rfl⟩
          obtain ⟨t3, ht3⟩ : ∃ t3, t3 = t / 256 := ⟨_, rfl⟩
          have et2 : (t : Int) % 256 = (t2 : Int) := by omega
          have et3 : (t : Int) / 256 = (t3 : Int) := by omega
          rw [← ht2, ← ht3] at hnext
          have HNX := Lib.hid hnext
          have hcz : wr.cell? ⟨g, s, none⟩ = some (.int .i64 (v : Int)) := by rw [b1.cell, is_getD (by rw [hrow.len]; exact hsl), hv]
          have hfz := b1.frozen s
          have hca2 : wr.cell? (ad.add i) = some (.int .i64 (x : Int)) := (hb1.cell (by rw [add_block]; omega)).trans hca
          have hsb := hb.below (hb1.mono hB')
          have HY := Lib.hid hy
          have hs0 : (0 : Int) ≤ (s : Int) := by omega
          have hs1 : (s : Int) < (N : Int) := by omega
          have HS := Lib.hid hs
          have hkB : k ≤ 2001 := by omega
          clear hy hv hp ht ht2 ht3 hnext hrow hs hca
          go_wp2
          go_quiet ((go_at_call 114; exact Calls.quiet_of_same (rat_to b k y _ _ _ _ _ hsb (by omega) (by omega) HY.out)))
          obtain ⟨W3, hW3⟩ : ∃ W, W = wr.drewN nq := ⟨_, rfl⟩
          replace b1 := b1.drewN nq
          replace hb1 : Below w.heap.size w (wr.drewN nq) := hb1.trans (Drew.below ⟨_, rfl⟩ _)
          have hcz3 : (wr.drewN nq).cell? ⟨g, s, none⟩ = some (.int .i64 (v : Int)) := hcz
          have hfz3 : (wr.drewN nq).frozen? ⟨g, s, none⟩ = false := hfz
          rw [← hW3] at b1 hb1 hcz3 hfz3 ⊢
          clear hW3 hcz hfz hca2 hsb
          go_wp2
          go_roundw
          case rel =>
            refine ⟨k + 1, t3, z.set s t2, by have := HS.out; omega, by go_num, by go_num, HNX.out, ?_, hb1.setCell (by simp; have := HG.out; omega) _⟩
            have h2 := b1.set s (.int .i64 (t2 : Int))
            rw [is_set] at h2
            exact h2
          case measure => simp [intOf]; have := HS.out; omega
        · have HSN : Hid (i + k = N) := (by unfold Hid; omega)
          have HD : Hid (bv 256 z = bv 256 (a.take (i + 1)) * bv 256 b) := by
            unfold Hid
            rw [HP0.out, HX.out] at hrow
            exact hrow.done HSN.out HDA.out HDB.out (by have := HNL.out; omega) HN.out
          have HZL := Lib.hid hrow.len
          have HZD := Lib.hid hrow.dg
          have hs1 : ¬ (s : Int) < (N : Int) := by omega
          clear hrow hs
          go_wp2
          go_roundw
          case rel => exact ⟨i + 1, z, by omega, by go_num, HZL.out, HZD.out, HD.out, b1, hb1⟩
          case measure => simp [intOf]; omega
    · have HI : Hid (i = n) := (by omega : i = n)
      have HVV : Hid (bv 256 z = V) := by unfold Hid; rw [hzv, HI.out, HNL.out, List.take_length, HV.out]
      go_wp2
      go_ret
      exact ⟨z, _, _, rfl, hzl, hzd, HVV.out, own_of_block b1 (by rw [HG.out]; exact Nat.le_refl _) (by rw [is_len]; exact hzl) (by unfold maxLen; omega), hb1⟩

end Go.Proofs.YtlnoopmblmkgkaaGreatDoor

namespace Go.Proofs.YtlnoopmblmkgkaaGreatDoor
set_option maxRecDepth 100000
open Go.RowKit
set_option linter.unusedVariables false
set_option linter.unusedSimpArgs false

theorem nb_take (l : List UInt8) (k : Nat) (h : k < l.length) : nb (l.take (k + 1)) = nb (l.take k) ++ [l[k].toNat] := by
  rw [take_snoc _ _ h, nb_append]; rfl

set_option maxHeartbeats 600000 in
theorem rdig_any (l : List UInt8) (w : World) (B : Nat) (A : Option Addr) (n c : Nat) (h : Sl w B A n (cb l)) (hB : B ≤ w.heap.size) (hn : n ≤ 1000000) :
    Calls Tryz.prog 109 #[.slice A n c] w (RetRow 3 w n (is (nb l))) := by
  obtain ⟨i0, hi, hz0, hz1, hz2⟩ := info_parts int_info
  have hnl : n = l.length := by rw [← h.1, cb_len]
  subst hnl
  go_enter Tryz.func109, Tryz.ntmps109
  go_wp2
  go_loopw [3, 4] (fun v i wr => ∃ k : Nat, k ≤ l.length ∧ i = .int .i64 k ∧ wr.ownsRow w.heap.size 3 1 v k (is (nb (l.take k))) ∧ Below w.heap.size w wr) (fun _ i _ => l.length - (intOf i).toNat)
  case atStart => exact ⟨0, Nat.zero_le _, rfl, World.ownsRow_nil _ _ _ _, Below.refl _ _⟩
  case round =>
    obtain ⟨k, hk, rfl, hown, hbel⟩ := hrel
    by_cases hlt : k < l.length
    · obtain ⟨ad, rfl, hbl, hc⟩ := (h.below (hbel.mono hB)).byte hlt
      have HS := Lib.hid (nb_take l k hlt)
      obtain ⟨x, hx⟩ : ∃ x, x = l[k].toNat := ⟨_, rfl⟩
      have hxl : x < 256 := by rw [hx]; exact l[k].toNat_lt
      rw [← hx] at hc HS
      have hsz := hbel.size
      clear h hx
      go_wp2_with (at_builtin; refine wpList_append_own_at _ rfl _ _ 75 rfl w.heap.size 3 i0 (.int .i64 0) 1 8 Tryz.underlying75 hi hz0 hz1 hz2 rfl (by decide) _ _ _ rfl (hown.alloc _) ⟨wr.heap.size, 0, none⟩ 1 1 _ rfl rfl (cell_one_new _ _ _) (by simp [Value.oneCell']) (by unfold maxLen; omega) (by omega) (by simp; omega) ?_; intro v' w1 hown' hgrow hnil hat)
      have hb1 := below_app1 hbel (Nat.le_refl _) hown hgrow
      have HO := Lib.hid hown'
      clear hown' hgrow hnil hat hown hc
      go_wp2
      go_roundw
      case rel => exact ⟨k + 1, by omega, by go_num, by rw [HS.out, is_append]; exact HO.out, hb1⟩
      case measure => simp [intOf]; omega
    · have HK : Hid (k = l.length) := (by omega : k = l.length)
      go_wp2
      go_ret
      exact retRow HK.out (by rw [HK.out, List.take_length]) hown hbel

/-- The lower digits. -/
def lowL (a : List Nat) (k : Nat) : List Nat := (List.range k).map fun i => a.getD i 0
theorem lowL_succ (a : List Nat) (k : Nat) : lowL a (k + 1) = lowL a k ++ [a.getD k 0] := by simp [lowL, List.range_succ]
theorem lowL_len (a : List Nat) (k : Nat) : (lowL a k).length = k := by simp [lowL]
theorem lowL_dg {a : List Nat} (h : Dg a) (k : Nat) : Dg (lowL a k) := by
  intro d hd
  obtain ⟨i, _, rfl⟩ := List.mem_map.1 hd
  exact h.at_ i
theorem lowL_bv (a : List Nat) (k : Nat) : bv 256 (lowL a k) = bv 256 (a.take k) := by
  induction k with
  | zero => rfl
  | succ k ih => rw [lowL_succ, bv_snoc, lowL_len, ih, bv_take_all]
theorem lowL_at (a : List Nat) (k i : Nat) (h : i < k) : (lowL a k).getD i 0 = a.getD i 0 := by
  rw [getD_lt _ _ (by rw [lowL_len]; exact h)]
  simp [lowL]
/-- The upper digits, from 2^130 on. -/
def highL (a : List Nat) (k : Nat) : List Nat := (List.range k).map fun j => a.getD (16 + j) 0 / 4 + a.getD (16 + j + 1) 0 % 4 * 64
theorem highL_succ (a : List Nat) (k : Nat) : highL a (k + 1) = highL a k ++ [a.getD (16 + k) 0 / 4 + a.getD (16 + k + 1) 0 % 4 * 64] := by simp [highL, List.range_succ]
theorem highL_len (a : List Nat) (k : Nat) : (highL a k).length = k := by simp [highL]
theorem highL_dg {a : List Nat} (h : Dg a) (k : Nat) : Dg (highL a k) := by
  intro d hd
  obtain ⟨j, _, rfl⟩ := List.mem_map.1 hd
  have h1 := h.at_ (16 + j)
  have h2 := h.at_ (16 + j + 1)
  omega
theorem getD_drop (a : List Nat) (n k : Nat) : (a.drop n).getD k 0 = a.getD (n + k) 0 := by
  rw [List.getD_eq_getElem?_getD, List.getElem?_drop, ← List.getD_eq_getElem?_getD]
theorem highL_bv (a : List Nat) (k : Nat) : 4 * bv 256 (highL a k) + a.getD 16 0 % 4 = bv 256 ((a.drop 16).take k) + 256 ^ k * (a.getD (16 + k) 0 % 4) := by
  induction k with
  | zero => simp [highL, bv]
  | succ k ih =>
    rw [highL_succ, bv_snoc, highL_len, bv_take_all, getD_drop, Nat.mul_add, Nat.pow_succ, Nat.mul_assoc]
    generalize a.getD (16 + k) 0 = p at *
    rw [show 16 + (k + 1) = 16 + k + 1 by omega]
    generalize a.getD (16 + k + 1) 0 = q at *
    have e : 4 * (p / 4 + q % 4 * 64) + p % 4 = p + 256 * (q % 4) := by omega
    have e2 : 4 * (256 ^ k * (p / 4 + q % 4 * 64)) + 256 ^ k * (p % 4) = 256 ^ k * p + 256 ^ k * (256 * (q % 4)) := by
      rw [Nat.mul_left_comm, ← Nat.mul_add, e, Nat.mul_add]
    generalize 256 ^ k * (p / 4 + q % 4 * 64) = X1 at *
    generalize 256 ^ k * (p % 4) = X2 at *
    generalize 256 ^ k * p = X3 at *
    generalize 256 ^ k * (256 * (q % 4)) = X4 at *
    omega

/-- One fold of a number. -/
def fF (v : Nat) : Nat := v % 1361129467683753853853498429727072845824 + 5 * (v / 1361129467683753853853498429727072845824)
theorem fF_mod (v : Nat) : v % pN = fF v % pN := by
  refine mod_of _ _ (v / 1361129467683753853853498429727072845824) ?_
  unfold fF pN
  omega
theorem fF_low (a : List Nat) (da : Dg a) (ha : 16 ≤ a.length) : bv 256 ((lowL a 17).set 16 (a.getD 16 0 % 4)) = bv 256 a % 1361129467683753853853498429727072845824 ∧ bv 256 (highL a (a.length - 16)) = bv 256 a / 1361129467683753853853498429727072845824 := by
  have h1 := highL_bv a (a.length - 16)
  rw [List.take_of_length_le (by simp), show 16 + (a.length - 16) = a.length by omega, getD_ge a a.length (Nat.le_refl _)] at h1
  have h2 := bv_set 256 (lowL a 17) 16 (a.getD 16 0 % 4) (by rw [lowL_len]; omega)
  rw [← getD_lt _ _ (by rw [lowL_len]; omega), lowL_at _ _ _ (by omega), lowL_bv, bv_take_all] at h2
  have h3 := bv_split 256 a 16 ha
  have h4 := (da.take 16).lt
  rw [List.length_take, Nat.min_eq_left ha] at h4
  rw [show (256 : Nat) ^ 16 = 340282366920938463463374607431768211456 from rfl] at h2 h3 h4
  simp only [Nat.zero_mod, Nat.mul_zero, Nat.add_zero] at h1
  generalize bv 256 ((lowL a 17).set 16 (a.getD 16 0 % 4)) = X at *
  generalize bv 256 (highL a (a.length - 16)) = Y at *
  generalize bv 256 (a.take 16) = L at *
  generalize bv 256 (a.drop 16) = D at *
  generalize a.getD 16 0 = d at *
  generalize bv 256 a = V at *
  omega

/-- How many digits a fold gives. -/
def fN (n : Nat) : Nat := Nat.max 17 (n - 16 + 2) + 1

set_option maxRecDepth 100000 in
set_option maxHeartbeats 2000000 in
theorem rfold_any (a : List Nat) (w : World) (B : Nat) (A : Option Addr) (n c : Nat) (h : Sl w B A n (is a)) (da : Dg a) (hB : B ≤ w.heap.size) (hn : 16 ≤ n) (hn2 : n ≤ 900) :
    Calls Tryz.prog 111 #[.slice A n c] w fun e w' => ∃ (z : List Nat) (A' : Option Addr) (c' : Nat), e = .returned (.slice A' (fN (fN (fN n))) c') ∧ Dg z ∧ bv 256 z = fF (fF (fF (bv 256 a))) ∧ Sl w' w'.heap.size A' (fN (fN (fN n))) (is z) ∧ Below w.heap.size w w' := by
  obtain ⟨i0, hi, hz0, hz1, hz2⟩ := info_parts int_info
  have hnl : n = a.length := by rw [← h.1, is_len]
  obtain ⟨NF, hNF⟩ : ∃ f : Nat → Nat, f = fun k => match k with | 0 => n | 1 => fN n | 2 => fN (fN n) | _ => fN (fN (fN n)) := ⟨_, rfl⟩
  obtain ⟨VF, hVF⟩ : ∃ f : Nat → Nat, f = fun k => match k with | 0 => bv 256 a | 1 => fF (bv 256 a) | 2 => fF (fF (bv 256 a)) | _ => fF (fF (fF (bv 256 a))) := ⟨_, rfl⟩
  have HN3 : Hid (NF 3 = fN (fN (fN n))) := by unfold Hid; subst hNF; rfl
  have HV3 : Hid (VF 3 = fF (fF (fF (bv 256 a)))) := by unfold Hid; subst hVF; rfl
  have hmx : ∀ x, fN x ≤ x + 18 ∧ 16 ≤ fN x := by intro x; unfold fN Nat.max; omega
  have HNS : Hid (∀ k, k < 3 → NF (k + 1) = fN (NF k)) := by
    unfold Hid; intro k hk; rw [hNF]
    rcases (show k = 0 ∨ k = 1 ∨ k = 2 by omega) with rfl | rfl | rfl <;> rfl
  have HVS : Hid (∀ k, k < 3 → VF (k + 1) = fF (VF k)) := by
    unfold Hid; intro k hk; rw [hVF]
    rcases (show k = 0 ∨ k = 1 ∨ k = 2 by omega) with rfl | rfl | rfl <;> rfl
  have HNB : Hid (∀ k, k ≤ 3 → NF k ≤ 954 ∧ 16 ≤ NF k) := by
    unfold Hid; intro k hk; rw [hNF]
    have m1 := hmx n
    have m2 := hmx (fN n)
    have m3 := hmx (fN (fN n))
    rcases (show k = 0 ∨ k = 1 ∨ k = 2 ∨ k = 3 by omega) with rfl | rfl | rfl | rfl
    · exact ⟨by simp; omega, by simp; omega⟩
    · exact ⟨by simp; omega, by simp; omega⟩
    · exact ⟨by simp; omega, by simp; omega⟩
    · exact ⟨by simp; omega, by simp; omega⟩
  have HN0 : Hid (NF 0 = n) := by unfold Hid; subst hNF; rfl
  have HV0 : Hid (VF 0 = bv 256 a) := by unfold Hid; subst hVF; rfl
  rw [← HN3.out, ← HV3.out]
  have HDA := Lib.hid da
  clear hNF hVF hmx hnl da
  go_enter Tryz.func111, Tryz.ntmps111
  go_wp2
  go_loopw [0, 3] (fun v t wr => ∃ (k : Nat) (x : List Nat) (A : Option Addr) (c : Nat), k ≤ 3 ∧ t = .int .i64 k ∧ v = .slice A (NF k) c ∧ Dg x ∧ bv 256 x = VF k ∧ Sl wr wr.heap.size A (NF k) (is x) ∧ Below w.heap.size w wr) (fun _ t _ => 3 - (intOf t).toNat)
  case atStart => exact ⟨0, a, A, c, by omega, rfl, by rw [HN0.out], HDA.out, HV0.out.symm, by rw [HN0.out]; exact h.up hB, Below.refl _ _⟩
  case round =>
    obtain ⟨k, x, A1, c1, hk, rfl, rfl, hxd, hxv, hxs, hbel⟩ := hrel
    obtain ⟨L, hL⟩ : ∃ L, L = NF k := ⟨_, rfl⟩
    rw [← hL] at hxs ⊢
    have HL := Lib.hid hL
    have hLB := HNB.out k hk
    rw [← hL] at hLB
    obtain ⟨hLB1, hLB2⟩ := hLB
    clear hL h
    have HXL : Hid (L = x.length) := by unfold Hid; rw [← hxs.1, is_len]
    by_cases hlt : k < 3
    · obtain ⟨w1, hw1⟩ : ∃ x, x = wr := ⟨wr, rfl⟩
      subst hw1
      have hk3 : (k : Int) < 3 := by omega
      have HXD := Lib.hid hxd
      have HXV := Lib.hid hxv
      clear hxd hxv
      go_wp2
      go_loopw [4, 6] (fun v t wr => ∃ (j : Nat), j ≤ 17 ∧ t = .int .i64 j ∧ wr.ownsRow w1.heap.size 3 1 v j (is (lowL x j)) ∧ Below w1.heap.size w1 wr) (fun _ t _ => 17 - (intOf t).toNat)
      case atStart => exact ⟨0, by omega, rfl, World.ownsRow_nil _ _ _ _, Below.refl _ _⟩
      case round =>
        obtain ⟨j, hj, rfl, hown, hb2⟩ := hrel
        by_cases hjl : j < 17
        · obtain ⟨y, hy⟩ : ∃ y, y = x.getD j 0 := ⟨_, rfl⟩
          have hyl : y < 256 := by rw [hy]; exact HXD.out.at_ j
          have HY := Lib.hid hy
          have hsx := hxs.below hb2
          have hsz := hb2.size
          clear hy
          go_wp2_with fail
          refine (rat_to x j y _ _ _ _ _ hsx (by omega) (by omega) HY.out).mono ?_
          rintro e w9 ⟨rfl, rfl⟩
          go_wp2_with (at_builtin; refine wpList_append_own_at _ rfl _ _ 75 rfl w1.heap.size 3 i0 (.int .i64 0) 1 8 Tryz.underlying75 hi hz0 hz1 hz2 rfl (by decide) _ _ _ rfl (hown.alloc _) ⟨w9.heap.size, 0, none⟩ 1 1 _ rfl rfl (cell_one_new _ _ _) (by simp [Value.oneCell']) (by unfold maxLen; omega) (by omega) (by simp; omega) ?_; intro v' w3 hown' hgrow hnil hat)
          have hb3 := below_app1 hb2 (Nat.le_refl _) hown hgrow
          have HO := Lib.hid hown'
          clear hown' hgrow hnil hat hown hsx hb2
          go_wp2
          go_roundw
          case rel => exact ⟨j + 1, by omega, by go_num, by rw [lowL_succ, is_append, ← HY.out]; exact HO.out, hb3⟩
          case measure => simp [intOf]; omega
        · have HJ : Hid (j = 17) := (by omega : j = 17)
          rw [HJ.out] at hown
          obtain ⟨gl, cl, rfl, hgl, hgl2⟩ := hown.form (by omega)
          obtain ⟨d, hd⟩ : ∃ d, d = x.getD 16 0 := ⟨_, rfl⟩
          have hdl : d < 256 := by rw [hd]; exact HXD.out.at_ 16
          have hc16 : wr.cell? ⟨gl, 16, none⟩ = some (.int .i64 (d : Int)) := by rw [hown.cellAt 16 (by omega), is_getD (by rw [lowL_len]; omega), lowL_at _ _ _ (by omega), hd]
          have hf16 := hown.frozenAt 16
          obtain ⟨d4, hd4⟩ : ∃ d4, d4 = d % 4 := ⟨_, rfl⟩
          have ed4 : (d : Int) % 4 = (d4 : Int) := by omega
          obtain ⟨hown2, hrest⟩ := hown.stored 16 (.int .i64 (d4 : Int))
          rw [is_set] at hown2
          have hb4 := hb2.setCell (p := ⟨gl, 16, none⟩) hgl (.int .i64 (d4 : Int))
          obtain ⟨Lo, hLo⟩ : ∃ Lo, Lo = (lowL x 17).set 16 d4 := ⟨_, rfl⟩
          rw [← hLo] at hown2
          obtain ⟨W4, hW4⟩ : ∃ W, W = wr.setCell ⟨gl, 16, none⟩ (.int .i64 (d4 : Int)) := ⟨_, rfl⟩
          rw [← hW4] at hown2 hb4
          have HW4 := Lib.hid hW4
          have hlo4 := Sl.own hown2
          have HLD : Hid (Dg Lo) := by unfold Hid; rw [hLo]; exact (lowL_dg HXD.out 17).set _ (by omega)
          have HLV : Hid (bv 256 Lo = VF k % 1361129467683753853853498429727072845824 ∧ bv 256 (highL x (L - 16)) = VF k / 1361129467683753853853498429727072845824) := by
            unfold Hid
            have h1 := fF_low x HXD.out (by rw [← HXL.out]; exact hLB2)
            rw [← HXV.out, hLo, hd4, hd, HXL.out]
            exact h1
          have hsx4 := hxs.below hb4
          have hbw4 := hbel.trans (hb4.mono hbel.size)
          have hsz4 := hb4.size
          clear hd hd4 hLo hW4 hown hown2 hrest hb2 hxs hbel
          go_wp2_with fail
          rw [← HW4.out]
          clear hc16 hf16 ed4 HW4
          go_loopw [5, 7] (fun v t wr => ∃ (s : Nat), 16 ≤ s ∧ s ≤ L ∧ t = .int .i64 s ∧ wr.ownsRow W4.heap.size 3 1 v (s - 16) (is (highL x (s - 16))) ∧ Below W4.heap.size W4 wr) (fun _ t _ => L - (intOf t).toNat)
          case atStart => exact ⟨16, by omega, hLB2, rfl, World.ownsRow_nil _ _ _ _, Below.refl _ _⟩
          case round =>
            obtain ⟨s, hs1, hs2, rfl, hown, hb5⟩ := hrel
            by_cases hsl : s < L
            · obtain ⟨p, hp⟩ : ∃ p, p = x.getD s 0 := ⟨_, rfl⟩
              obtain ⟨s1, hs3⟩ : ∃ s1, s1 = s + 1 := ⟨_, rfl⟩
              obtain ⟨q, hq⟩ : ∃ q, q = x.getD s1 0 := ⟨_, rfl⟩
              have hpl : p < 256 := by rw [hp]; exact HXD.out.at_ _
              have hql : q < 256 := by rw [hq]; exact HXD.out.at_ _
              obtain ⟨y, hy⟩ : ∃ y, y = p / 4 + q % 4 * 64 := ⟨_, rfl⟩
              have ey : (p : Int) / 4 + (q : Int) % 4 * 64 = (y : Int) := by omega
              have es1 : (s : Int) + 1 = (s1 : Int) := by omega
              have HHS : Hid (highL x (s1 - 16) = highL x (s - 16) ++ [y]) := by
                unfold Hid
                rw [show s1 - 16 = (s - 16) + 1 by omega, highL_succ, show 16 + (s - 16) = s by omega, ← hs3, ← hp, ← hq, ← hy]
              have HP := Lib.hid hp
              have HQ := Lib.hid hq
              have HS3 := Lib.hid hs3
              have hsx := hsx4.below (hb5.mono hsz4)
              have hsz := hb5.size
              have hslI : (s : Int) < (L : Int) := by omega
              have hs1B : s1 ≤ 2000 := by omega
              clear hp hq hy hs3
              go_wp2_with fail
              refine (rat_to x s p _ _ _ _ _ hsx (by omega) (by omega) HP.out).mono ?_
              rintro e w9 ⟨rfl, rfl⟩
              go_wp2_with fail
              refine (rat_to x s1 q _ _ _ _ _ hsx (by omega) (by omega) HQ.out).mono ?_
              rintro e w8 ⟨rfl, rfl⟩
              go_wp2_with (at_builtin; refine wpList_append_own_at _ rfl _ _ 75 rfl W4.heap.size 3 i0 (.int .i64 0) 1 8 Tryz.underlying75 hi hz0 hz1 hz2 rfl (by decide) _ _ _ rfl (hown.alloc _) ⟨w8.heap.size, 0, none⟩ 1 1 _ rfl rfl (cell_one_new _ _ _) (by simp [Value.oneCell']) (by unfold maxLen; omega) (by omega) (by simp; omega) ?_; intro v' w3 hown' hgrow hnil hat)
              have hb6 := below_app1 hb5 (Nat.le_refl _) hown hgrow
              have HO := Lib.hid hown'
              clear hown' hgrow hnil hat hown hsx hb5
              go_wp2
              go_roundw
              case rel =>
                have h3 := HS3.out
                refine ⟨s1, by omega, by omega, rfl, ?_, hb6⟩
                have h4 := HO.out
                rw [HHS.out, is_append, show s1 - 16 = s - 16 + 1 by omega]
                exact h4
              case measure => have h3 := HS3.out; simp [intOf]; omega
            · have HS : Hid (s = L) := (by omega : s = L)
              rw [HS.out] at hown
              obtain ⟨Hi, hHi⟩ : ∃ Hi, Hi = highL x (L - 16) := ⟨_, rfl⟩
              rw [← hHi] at hown HLV
              have HHD : Hid (Dg Hi) := by unfold Hid; rw [hHi]; exact highL_dg HXD.out _
              have HHL : Hid (Hi.length = L - 16) := by unfold Hid; rw [hHi, highL_len]
              obtain ⟨Ah, ch, rfl⟩ := own_form hown
              have hshi := Sl.own hown
              have hslo := hlo4.nx hb5
              have hbw5 := hbw4.trans (hb5.mono (Nat.le_trans hbw4.size (Nat.le_refl _)))
              have hslI : ¬ (s : Int) < (L : Int) := by omega
              obtain ⟨h, hh⟩ : ∃ h, h = L - 16 := ⟨_, rfl⟩
              rw [← hh] at hshi HHL ⊢
              have HH := Lib.hid hh
              have hhB : h ≤ 938 := by omega
              clear hHi hown hb5 hlo4 hsx4 hbw4 hh
              go_wp2_with fail
              have hb6 : Below wr.heap.size wr (wr.alloc (.cells #[.int .i64 5] 3)) := (Below.refl _ wr).alloc (Nat.le_refl _) _
              have hs5 : Sl (wr.alloc (.cells #[.int .i64 5] 3)) (wr.alloc (.cells #[.int .i64 5] 3)).heap.size (some ⟨wr.heap.size, 0, none⟩) 1 (is [5]) := by
                have := Sl.new wr #[.int .i64 5] 3
                rw [alloc_size]
                exact this
              replace hshi := hshi.nx hb6
              replace hslo := hslo.nx hb6
              replace hbw5 := next hbw5 hb6
              clear hb6
              refine (rprod_any Hi [5] _ _ _ _ _ _ _ _ _ hshi hs5 HHD.out (by intro d hd; rw [List.mem_singleton.1 hd]; omega) (Nat.le_refl _) (Nat.le_refl _) (by omega) (by omega) (h + 2) (by omega)).mono ?_
              rintro e w7 ⟨zp, Ap, cp, rfl, hpl, hpd, hpv, hown7, hb7⟩
              have hsp := Sl.own hown7
              replace hslo := hslo.nx hb7
              replace hbw5 := next hbw5 hb7
              have HPV := Lib.hid hpv
              clear hpv hown7 hb7 hshi hs5
              go_wp2_with fail
              refine (rsum_any Lo zp _ _ _ _ _ _ _ _ _ hslo hsp HLD.out hpd (Nat.le_refl _) (Nat.le_refl _) (by omega) (by omega) (NF (k + 1)) (by rw [HNS.out k hlt, ← HL.out, HH.out]; rfl)).mono ?_
              rintro e w8 ⟨z8, A8, c8, rfl, hzl, hzd, hzv, hown8, hb8⟩
              have hs8 := Sl.own hown8
              replace hbw5 := next hbw5 hb8
              have HZV : Hid (bv 256 z8 = VF (k + 1)) := by
                unfold Hid
                rw [hzv, HPV.out, HLV.out.1, HLV.out.2, HVS.out k hlt]
                simp only [bv]
                unfold fF
                omega
              clear hzv hown8 hb8 hslo hsp
              go_wp2
              go_roundw
              case rel => exact ⟨k + 1, z8, A8, c8, by omega, by go_num, rfl, hzd, HZV.out, hs8, hbw5⟩
              case measure => simp [intOf]; omega
    · have HK : Hid (k = 3) := (by omega : k = 3)
      have hk3 : ¬ (k : Int) < 3 := by omega
      go_wp2
      go_ret
      have h3 := HL.out
      rw [HK.out] at h3 hxv
      rw [h3] at hxs ⊢
      exact ⟨x, A1, ⟨c1, rfl⟩, hxd, hxv, hxs, hbel⟩

end Go.Proofs.YtlnoopmblmkgkaaGreatDoor

namespace Go.Proofs.YtlnoopmblmkgkaaGreatDoor
set_option maxRecDepth 100000
open Go.RowKit
set_option linter.unusedVariables false
set_option linter.unusedSimpArgs false

/-- Eighteen digits. -/
theorem bv_18 {a : List Nat} (h : a.length = 18) (d : Dg a) : ∃ a0 a1 a2 a3 a4 a5 a6 a7 a8 a9 a10 a11 a12 a13 a14 a15 a16 a17 : Nat, a = [a0, a1, a2, a3, a4, a5, a6, a7, a8, a9, a10, a11, a12, a13, a14, a15, a16, a17] := by
  match a, h with
  | [a0, a1, a2, a3, a4, a5, a6, a7, a8, a9, a10, a11, a12, a13, a14, a15, a16, a17], _ => exact ⟨a0, a1, a2, a3, a4, a5, a6, a7, a8, a9, a10, a11, a12, a13, a14, a15, a16, a17, rfl⟩
theorem less_17 {a : List Nat} (h : a.length = 18) (d : Dg a) (h17 : a.getD 17 0 ≠ 0) : ¬ bv 256 a < pN := by
  have h1 := bv_split 256 a 17 (by omega)
  have h2 : a.drop 17 = [a.getD 17 0] := by rw [List.drop_eq_getElem_cons (by omega), List.drop_of_length_le (by omega), getD_lt _ _ (by omega)]
  rw [h2] at h1
  simp only [bv] at h1
  generalize a.getD 17 0 = x at *
  rw [show (256 : Nat) ^ 17 = 87112285931760246646623899502532662132736 from rfl] at h1
  unfold pN
  omega
/-- The value without the last digit, which is 0. -/
theorem less_val {a : List Nat} (h : a.length = 18) (d : Dg a) (h17 : a.getD 17 0 = 0) : bv 256 a = bv 256 (a.take 16) + 340282366920938463463374607431768211456 * a.getD 16 0 := by
  have h1 := bv_split 256 a 18 (by omega)
  rw [List.drop_of_length_le (by omega), bv_take_all, bv_take_all, h17] at h1
  simpa [bv] using h1
theorem less_16 {a : List Nat} (h : a.length = 18) (d : Dg a) (h17 : a.getD 17 0 = 0) (h16 : a.getD 16 0 ≠ 3) : (bv 256 a < pN) ↔ a.getD 16 0 < 3 := by
  have h1 := less_val h d h17
  have h2 := (d.take 16).lt
  rw [List.length_take, h] at h2
  rw [show (256 : Nat) ^ (min 16 18) = 340282366920938463463374607431768211456 from rfl] at h2
  rw [h1]
  unfold pN
  omega
theorem less_mid {a : List Nat} (h : a.length = 18) (d : Dg a) (h17 : a.getD 17 0 = 0) (h16 : a.getD 16 0 = 3) (j : Nat) (hj : 1 ≤ j) (hj2 : j < 16) (hl : a.getD j 0 < 255) : bv 256 a < pN := by
  have h1 := less_val h d h17
  have h2 := bv_split 256 (a.take 16) (j + 1) (by rw [List.length_take]; omega)
  have h3 : (a.take 16).take (j + 1) = a.take (j + 1) := by rw [List.take_take, Nat.min_eq_left (by omega)]
  rw [h3, bv_take_all 256 a j] at h2
  have h4 := (d.take j).lt
  rw [List.length_take, Nat.min_eq_left (by omega)] at h4
  have h5 := ((d.take 16).drop (j + 1)).lt
  rw [List.length_drop, List.length_take, Nat.min_eq_left (by omega)] at h5
  generalize bv 256 (a.take j) = p at *
  generalize bv 256 ((a.take 16).drop (j + 1)) = q at *
  generalize a.getD j 0 = x at *
  have h6 : 256 ^ j * x ≤ 256 ^ j * 254 := Nat.mul_le_mul_left _ (by omega)
  have h7 : 256 ^ (j + 1) * (q + 1) ≤ 256 ^ (j + 1) * 256 ^ (16 - (j + 1)) := Nat.mul_le_mul_left _ h5
  rw [← Nat.pow_add, show j + 1 + (16 - (j + 1)) = 16 by omega, Nat.mul_add, Nat.mul_one] at h7
  have h8 : 256 ^ 1 ≤ 256 ^ j := Nat.pow_le_pow_right (by decide) hj
  rw [show (256 : Nat) ^ 16 = 340282366920938463463374607431768211456 from rfl] at h7
  rw [Nat.pow_succ] at h7 h2
  obtain ⟨u, hu⟩ : ∃ u, u = 256 ^ j * x := ⟨_, rfl⟩
  obtain ⟨v, hv⟩ : ∃ v, v = 256 ^ j * 256 * q := ⟨_, rfl⟩
  rw [← hu] at h6 h2
  rw [← hv] at h7 h2
  clear hu hv
  obtain ⟨e, he⟩ : ∃ e, e = 256 ^ j := ⟨_, rfl⟩
  rw [← he] at h4 h6 h7 h8
  clear he h5
  rw [h1, h16]
  unfold pN
  omega
theorem less_end {a : List Nat} (h : a.length = 18) (d : Dg a) (h17 : a.getD 17 0 = 0) (h16 : a.getD 16 0 = 3) (hall : ∀ j, 1 ≤ j → j < 16 → a.getD j 0 = 255) : (bv 256 a < pN) ↔ a.getD 0 0 < 251 := by
  have h1 := less_val h d h17
  have h2 : ∀ k, 1 ≤ k → k ≤ 16 → bv 256 (a.take k) + 256 = a.getD 0 0 + 256 ^ k := by
    intro k
    induction k with
    | zero => intro h; omega
    | succ k ih =>
      intro _ hk
      rcases Nat.eq_zero_or_pos k with rfl | h0
      · rw [bv_take_all]; simp [bv]
      · rw [bv_take_all, hall k h0 (by omega), Nat.pow_succ]
        have := ih h0 (by omega)
        omega
  have h3 := h2 16 (by omega) (by omega)
  rw [h1, h16]
  rw [show (256 : Nat) ^ 16 = 340282366920938463463374607431768211456 from rfl] at h3
  unfold pN
  omega

set_option maxRecDepth 100000 in
set_option maxHeartbeats 1000000 in
theorem rless_any (a : List Nat) (w : World) (B : Nat) (A : Option Addr) (c : Nat) (h : Sl w B A 18 (is a)) (da : Dg a) (r : Bool) (hr : r = decide (bv 256 a < pN)) :
    Calls Tryz.prog 140 #[.slice A 18 c] w fun e w' => e = .returned (.bool r) ∧ w = w' := by
  have hl : a.length = 18 := by rw [← is_len, h.1]
  have HA := Lib.hid hl
  have HDA := Lib.hid da
  have HR := Lib.hid hr
  obtain ⟨ad, rfl, hadb, hcell⟩ := h.2 (by omega)
  have hc17 := hcell 17 _ (is_getD (by omega))
  obtain ⟨x17, hx17⟩ : ∃ x, x = a.getD 17 0 := ⟨_, rfl⟩
  obtain ⟨x16, hx16⟩ : ∃ x, x = a.getD 16 0 := ⟨_, rfl⟩
  obtain ⟨x0, hx0⟩ : ∃ x, x = a.getD 0 0 := ⟨_, rfl⟩
  rw [← hx17, show ad.add 17 = ⟨ad.block, ad.off + 17, none⟩ by simp [Addr.add]] at hc17
  have HX17 := Lib.hid hx17
  have HX16 := Lib.hid hx16
  have HX0 := Lib.hid hx0
  clear hl hr hx17 hx16 hx0 hcell da
  go_enter Tryz.func140, Tryz.ntmps140
  go_wp2
  go_loop [3] (fun t => ∃ s : Nat, t = .int .i64 s ∧ (s = 17 ∨ (s = 18 ∧ x17 = 0))) (fun t => 18 - (intOf t).toNat)
  case atStart => exact ⟨17, rfl, .inl rfl⟩
  case round =>
    obtain ⟨s, rfl, hs⟩ := hrel
    by_cases hlt : s = 17
    · subst hlt
      clear hs
      by_cases h0 : x17 = 0
      · have hq : ¬ (0 : Int) < (x17 : Int) := by omega
        go_wp2
        go_round
        case rel => exact ⟨18, rfl, .inr ⟨rfl, h0⟩⟩
        case measure => simp [intOf]
      · have hq : (0 : Int) < (x17 : Int) := by omega
        have HF : Hid (r = false) := by unfold Hid; rw [HR.out]; exact decide_eq_false (less_17 HA.out HDA.out (by rw [← HX17.out]; exact h0))
        clear h0
        go_wp2
        go_ret
        exact ⟨ret_bool (by rw [HF.out]), rfl⟩
    · obtain ⟨hs18, h0⟩ := hs.resolve_left hlt
      subst hs18
      have H17 : Hid (a.getD 17 0 = 0) := by unfold Hid; rw [← HX17.out, h0]
      clear hs hlt h0
      go_wp2_with fail
      refine (rat_to a 16 x16 _ _ _ _ _ h (by omega) (by omega) HX16.out).mono ?_
      rintro e w1 ⟨rfl, rfl⟩
      by_cases h3 : x16 = 3
      · have H16 : Hid (a.getD 16 0 = 3) := by unfold Hid; rw [← HX16.out, h3]
        have q3 : ((x16 : Int) != 3) = false := by simp; omega
        clear h3
        go_wp2
        go_loop [4] (fun t => ∃ j : Nat, t = .int .i64 j ∧ 1 ≤ j ∧ j ≤ 16 ∧ ∀ i, 1 ≤ i → i < j → a.getD i 0 = 255) (fun t => 16 - (intOf t).toNat)
        case atStart => exact ⟨1, rfl, by omega, by omega, fun i h1 h2 => by omega⟩
        case round =>
          obtain ⟨j, rfl, hj1, hj2, hall⟩ := hrel
          by_cases hjl : j < 16
          · obtain ⟨y, hy⟩ : ∃ y, y = a.getD j 0 := ⟨_, rfl⟩
            have HY := Lib.hid hy
            have hyl : y < 256 := by rw [hy]; exact HDA.out.at_ j
            have HALL := Lib.hid hall
            clear hy hall
            by_cases h255 : y < 255
            · have q5 : (y : Int) < 255 := by omega
              have HF : Hid (r = true) := by unfold Hid; rw [HR.out]; exact decide_eq_true (less_mid HA.out HDA.out H17.out H16.out j hj1 hjl (by rw [← HY.out]; exact h255))
              go_wp2_with fail
              refine (rat_to a j y _ _ _ _ _ h (by omega) (by omega) HY.out).mono ?_
              rintro e w2 ⟨rfl, rfl⟩
              go_wp2
              go_ret
              exact ⟨ret_bool (by rw [HF.out]), rfl⟩
            · have q5 : ¬ (y : Int) < 255 := by omega
              have HYE : Hid (a.getD j 0 = 255) := by unfold Hid; rw [← HY.out]; omega
              go_wp2_with fail
              refine (rat_to a j y _ _ _ _ _ h (by omega) (by omega) HY.out).mono ?_
              rintro e w2 ⟨rfl, rfl⟩
              go_wp2
              go_round
              case rel =>
                refine ⟨j + 1, by go_num, by omega, by omega, fun i h1 h2 => ?_⟩
                rcases (show i < j ∨ i = j by omega) with h3 | rfl
                · exact HALL.out i h1 h3
                · exact HYE.out
              case measure => simp [intOf]; omega
          · have HF : Hid (r = decide ((x0 : Int) < 251)) := by
              unfold Hid
              rw [HR.out]
              have := less_end HA.out HDA.out H17.out H16.out (fun i h1 h2 => hall i h1 (by omega))
              rw [← HX0.out] at this
              simp only [decide_eq_decide]
              rw [this]
              omega
            have hj16 : ¬ (j : Int) < 16 := by omega
            clear hall
            go_wp2_with fail
            refine (rat_to a 0 x0 _ _ _ _ _ h (by omega) (by omega) HX0.out).mono ?_
            rintro e w2 ⟨rfl, rfl⟩
            go_wp2
            go_ret
            exact ⟨ret_bool (by rw [HF.out]), rfl⟩
      · have q3 : ((x16 : Int) != 3) = true := by simp; omega
        have HF : Hid (r = decide ((x16 : Int) < 3)) := by
          unfold Hid
          rw [HR.out]
          have := less_16 HA.out HDA.out H17.out (by rw [← HX16.out]; exact h3)
          rw [← HX16.out] at this
          simp only [decide_eq_decide]
          rw [this]
          omega
        clear h3
        go_wp2_with fail
        refine (rat_to a 16 x16 _ _ _ _ _ h (by omega) (by omega) HX16.out).mono ?_
        rintro e w1 ⟨rfl, rfl⟩
        go_wp2
        go_ret
        exact ⟨ret_bool (by rw [HF.out]), rfl⟩

/-- Digits that lie in memory. -/
def RetDs (w : World) (v : Nat) (e : Ending) (w' : World) : Prop := ∃ (z : List Nat) (A : Option Addr) (n c : Nat), e = .returned (.slice A n c) ∧ n ≤ 18 ∧ Dg z ∧ bv 256 z = v ∧ Sl w' w'.heap.size A n (is z) ∧ Below w.heap.size w w'

set_option maxHeartbeats 1000000 in
theorem rleast_any (a : List Nat) (w : World) (A : Option Addr) (c : Nat) (h : Sl w w.heap.size A 18 (is a)) (da : Dg a) (hv : bv 256 a < 1361129467683753853853498429727072845824) :
    Calls Tryz.prog 110 #[.slice A 18 c] w (RetDs w (bv 256 a % pN)) := by
  obtain ⟨V, hV⟩ : ∃ V, V = bv 256 a % pN := ⟨_, rfl⟩
  rw [← hV]
  have HV := Lib.hid hV
  have HDA := Lib.hid da
  have HVL := Lib.hid hv
  clear hV hv
  by_cases hp : bv 256 a < pN
  · have HT := Lib.hid (rless_any a w _ A c h da true (decide_eq_true hp).symm)
    have HVV : Hid (bv 256 a = V) := by unfold Hid; rw [HV.out, Nat.mod_eq_of_lt hp]
    clear hp da
    go_enter Tryz.func110, Tryz.ntmps110
    go_wp2_with fail
    refine HT.out.mono ?_
    rintro e w1 ⟨rfl, rfl⟩
    go_wp2
    go_ret
    exact ⟨a, A, 18, c, rfl, Nat.le_refl _, HDA.out, HVV.out, h, Below.refl _ _⟩
  · have HT := Lib.hid (rless_any a w _ A c h da false (decide_eq_false hp).symm)
    have HP := Lib.hid hp
    clear hp da
    go_enter Tryz.func110, Tryz.ntmps110
    go_wp2_with fail
    refine HT.out.mono ?_
    rintro e w1 ⟨rfl, rfl⟩
    go_wp2_with fail
    have hb1 : Below w.heap.size w (w.alloc (.cells #[.int .i64 5] 3)) := (Below.refl _ w).alloc (Nat.le_refl _) _
    have hs5 : Sl (w.alloc (.cells #[.int .i64 5] 3)) (w.alloc (.cells #[.int .i64 5] 3)).heap.size (some ⟨w.heap.size, 0, none⟩) 1 (is [5]) := by
      have := Sl.new w #[.int .i64 5] 3
      rw [alloc_size]
      exact this
    refine (rsum_any a [5] _ _ _ _ _ _ _ _ _ (h.nx hb1) hs5 HDA.out (by intro d hd; rw [List.mem_singleton.1 hd]; omega) (Nat.le_refl _) (Nat.le_refl _) (by omega) (by omega) 19 rfl).mono ?_
    rintro e w2 ⟨z, A2, c2, rfl, hzl, hzd, hzv, hown, hb2⟩
    obtain ⟨g, cl, hAe, hgl, hgl2⟩ := hown.form (by omega)
    injection hAe with hA1 _ hA3
    subst hA1
    subst hA3
    have hcap := own_cap hown
    obtain ⟨d, hd⟩ : ∃ d, d = z.getD 16 0 := ⟨_, rfl⟩
    have hdl : d < 256 := by rw [hd]; exact hzd.at_ 16
    have hc16 : w2.cell? ⟨g, 16, none⟩ = some (.int .i64 (d : Int)) := by rw [hown.cellAt 16 (by omega), is_getD (by omega), hd]
    have hf16 := hown.frozenAt 16
    obtain ⟨d4, hd4⟩ : ∃ d4, d4 = d % 4 := ⟨_, rfl⟩
    have ed4 : (d : Int) % 4 = (d4 : Int) := by omega
    obtain ⟨hown2, hrest⟩ := hown.stored 16 (.int .i64 (d4 : Int))
    rw [is_set] at hown2
    replace hb1 := next hb1 hb2
    have hgl3 : w.heap.size ≤ g := by rw [alloc_size] at hgl; omega
    have hb4 := hb1.setCell (p := ⟨g, 16, none⟩) hgl3 (.int .i64 (d4 : Int))
    obtain ⟨Z, hZ⟩ : ∃ Z, Z = z.set 16 d4 := ⟨_, rfl⟩
    rw [← hZ] at hown2
    obtain ⟨W4, hW4⟩ : ∃ W, W = w2.setCell ⟨g, 16, none⟩ (.int .i64 (d4 : Int)) := ⟨_, rfl⟩
    rw [← hW4] at hown2 hb4
    have HW4 := Lib.hid hW4
    have hsz := sl_take (h := 17) (Sl.own hown2) (by omega)
    rw [← is_take] at hsz
    have HZD : Hid (Dg (Z.take 17)) := by unfold Hid; rw [hZ]; exact (hzd.set _ (by omega)).take _
    have HZV : Hid (bv 256 (Z.take 17) = V) := by
      unfold Hid
      have h1 : Z.take 17 = (z.take 17).set 16 d4 := by rw [hZ, List.take_set]
      have h2 := bv_set 256 (z.take 17) 16 d4 (by rw [List.length_take, hzl]; omega)
      have h3 : (z.take 17)[16]'(by rw [List.length_take, hzl]; omega) = d := by rw [List.getElem_take, hd, getD_lt _ _ (by omega)]
      rw [h3] at h2
      have h4 := bv_split 256 z 17 (by omega)
      rw [bv_take_all 256 z 16] at h2 h4
      rw [← hd] at h2 h4
      have h5 := (hzd.take 16).lt
      rw [List.length_take, hzl] at h5
      rw [show (256 : Nat) ^ (min 16 19) = 340282366920938463463374607431768211456 from rfl] at h5
      rw [show (256 : Nat) ^ 16 = 340282366920938463463374607431768211456 from rfl] at h2 h4
      rw [show (256 : Nat) ^ 17 = 87112285931760246646623899502532662132736 from rfl] at h4
      have h6 := HVL.out
      have h7 := HP.out
      rw [h1, HV.out]
      have h8 : bv 256 a = (bv 256 a - pN) + 1 * pN := by omega
      rw [mod_of _ _ _ h8, Nat.mod_eq_of_lt (by unfold pN at *; omega)]
      simp only [bv] at hzv
      unfold pN at *
      omega
    clear hd hd4 hZ hW4 hown hown2 hrest hb2 hzv hs5 hzl hzd hb1
    go_wp2_with (refine wpList_slice_h rfl 75 _ _ rfl 3 Tryz.underlying75 int_size _ _ _ 17 .i64 _ rfl rfl rfl (by omega) ?_)
    rw [← HW4.out]
    go_ret
    exact ⟨Z.take 17, _, 17, _, rfl, by omega, HZD.out, HZV.out, hsz, hb4⟩

end Go.Proofs.YtlnoopmblmkgkaaGreatDoor

namespace Go.Proofs.YtlnoopmblmkgkaaGreatDoor
set_option maxRecDepth 100000
open Go.RowKit
set_option linter.unusedVariables false
set_option linter.unusedSimpArgs false

/-- The digits of r. -/
def nA (x : List Nat) : Nat → List Nat
  | 0 => x
  | k + 1 => (nA x k).set (3 + 4 * k) ((nA x k).getD (3 + 4 * k) 0 % 16)
def nB (x : List Nat) : Nat → List Nat
  | 0 => x
  | k + 1 => (nB x k).set (4 + 4 * k) ((nB x k).getD (4 + 4 * k) 0 - (nB x k).getD (4 + 4 * k) 0 % 4)
theorem nA_len (x : List Nat) (k : Nat) : (nA x k).length = x.length := by induction k with
  | zero => rfl
  | succ k ih => rw [nA, List.length_set, ih]
theorem nB_len (x : List Nat) (k : Nat) : (nB x k).length = x.length := by induction k with
  | zero => rfl
  | succ k ih => rw [nB, List.length_set, ih]
theorem nA_dg {x : List Nat} (h : Dg x) (k : Nat) : Dg (nA x k) := by induction k with
  | zero => exact h
  | succ k ih => rw [nA]; exact ih.set _ (by have := ih.at_ (3 + 4 * k); omega)
theorem nB_dg {x : List Nat} (h : Dg x) (k : Nat) : Dg (nB x k) := by induction k with
  | zero => exact h
  | succ k ih => rw [nB]; exact ih.set _ (by have := ih.at_ (4 + 4 * k); omega)
theorem nb_getD (l : List UInt8) (k : Nat) : (nb l).getD k 0 = (l.getD k 0).toNat := by
  unfold nb
  rw [List.getD_eq_getElem?_getD, List.getD_eq_getElem?_getD, List.getElem?_map]
  rcases l[k]? with _ | b <;> rfl
theorem nb_set (l : List UInt8) (k : Nat) (b : UInt8) : nb (l.set k b) = (nb l).set k b.toNat := by simp [nb, List.map_set]
theorem and_15 (b : UInt8) : (b &&& 15).toNat = b.toNat % 16 := by
  rw [UInt8.toNat_and]
  exact Nat.and_two_pow_sub_one_eq_mod b.toNat 4
theorem and_252 (b : UInt8) : (b &&& 252).toNat = b.toNat - b.toNat % 4 := by
  rw [UInt8.toNat_and]
  have h : ∀ n, n < 256 → n &&& 252 = n - n % 4 := by decide +kernel
  exact h b.toNat b.toNat_lt
theorem nb_bA (l : List UInt8) (k : Nat) : nb (bA l k) = nA (nb l) k := by induction k with
  | zero => rfl
  | succ k ih => rw [bA, nA, nb_set, and_15, ih, ← ih, nb_getD]
theorem nb_bB (l : List UInt8) (k : Nat) : nb (bB l k) = nB (nb l) k := by induction k with
  | zero => rfl
  | succ k ih => rw [bB, nB, nb_set, and_252, ih, ← ih, nb_getD]
theorem nA_snoc (x : List Nat) (h : x.length = 16) (k : Nat) (hk : k ≤ 4) : nA (x ++ [0]) k = nA x k ++ [0] := by induction k with
  | zero => rfl
  | succ k ih =>
    have hl := nA_len x k
    rw [nA, nA, ih (by omega), List.set_append_left _ _ (by omega)]
    rw [getD_lt (nA x k ++ [0]) _ (by simp; omega), getD_lt (nA x k) _ (by omega), List.getElem_append_left (by omega)]
theorem nB_snoc (x : List Nat) (h : x.length = 16) (k : Nat) (hk : k ≤ 3) : nB (x ++ [0]) k = nB x k ++ [0] := by induction k with
  | zero => rfl
  | succ k ih =>
    have hl := nB_len x k
    rw [nB, nB, ih (by omega), List.set_append_left _ _ (by omega)]
    rw [getD_lt (nB x k ++ [0]) _ (by simp; omega), getD_lt (nB x k) _ (by omega), List.getElem_append_left (by omega)]
theorem rK_eq (key : List UInt8) (h : key.length = 32) : bv 256 (nB (nA (nb (key.take 16)) 4) 3) = rKy key := by
  have hl : (key.take 16).length = 16 := by rw [List.length_take, h]; rfl
  unfold rKy rN lv rB
  rw [nb_bB, nb_bA]
  have hw : nb (wid (key.take 16)) = nb (key.take 16) ++ [0] := by unfold wid; rw [hl, nb_append]; rfl
  rw [hw, nA_snoc _ (by rw [nb_len, hl]) 4 (by omega), nB_snoc _ (by rw [nA_len, nb_len, hl]) 3 (by omega), bv_snoc]
  simp
theorem fold3 (v : Nat) (h : v < 497323236409786642155382248146820840100456150797347717440463976893159497012533375533056) : fF (fF (fF v)) < 1361129467683753853853498429727072845824 ∧ fF (fF (fF v)) % pN = v % pN := by
  refine ⟨?_, by rw [← fF_mod, ← fF_mod, ← fF_mod]⟩
  have h1 : fF v < 1361129467683753853853498429727072845824 + 5 * 365375409332725729550921208179070754913983135744 := by unfold fF; omega
  have h2 : fF (fF v) < 1361129467683753853853498429727072845824 + 5 * 1342177281 := by
    generalize fF v = u at *
    unfold fF; omega
  generalize fF (fF v) = u at *
  unfold fF
  omega
theorem fN_18 (n : Nat) (h1 : 18 ≤ n) (h2 : n ≤ 36) : fN (fN (fN n)) = 18 := by unfold fN Nat.max; omega
theorem le_take (V k y : Nat) (h : k < 16) (hy : y = V / 256 ^ k % 256) : cb ((le V 16).take (k + 1)) = cb ((le V 16).take k) ++ [.int .u8 (y : Int)] := by
  rw [take_snoc _ _ (by rw [le_len]; exact h), cb_append]
  have h1 := le_at V 16 k h
  rw [List.getElem?_eq_getElem (by rw [le_len]; exact h)] at h1
  have h2 := Option.some.inj h1
  rw [h2, ← hy]
  simp only [cb, List.map_cons, List.map_nil, bc]
  have hy2 : y < 256 := by rw [hy]; exact Nat.mod_lt _ (by decide)
  rw [UInt8.toNat_ofNat_of_lt' (by simp [UInt8.size]; omega)]
theorem digit_at (z : List Nat) (d : Dg z) (k : Nat) (h : k < z.length) : z.getD k 0 = bv 256 z / 256 ^ k % 256 := by
  have h1 := bv_mid z d k 1 (by omega)
  have e : (z.drop k).take 1 = [z[k]] := by rw [List.drop_eq_getElem_cons h, List.take_succ_cons, List.take_zero]
  rw [e, Nat.pow_one] at h1
  rw [getD_lt _ _ h, ← h1]
  simp [bv]

set_option maxRecDepth 100000 in
set_option maxHeartbeats 4000000 in
theorem rtag6_any (key b : List UInt8) (w : World) (A0 A1 : Option Addr) (n0 c0 n1 c1 : Nat) (h0 : Sl w w.heap.size A0 n0 (cb key)) (k0 : n0 ≤ c0) (z0 : A0 = none → c0 = 0) (m0 : n0 ≤ maxLen) (h1 : Sl w w.heap.size A1 n1 (cb b)) (k1 : n1 ≤ c1) (z1 : A1 = none → c1 = 0) (m1 : n1 ≤ 1000000) :
    Calls Tryz.prog 74 #[.slice A0 n0 c0, .slice A1 n1 c1] w (RetSl w (tagR key b) (tagE key)) := by
  obtain ⟨i0, hi, hz0, hz1, hz2⟩ := info_parts int_info
  obtain ⟨i8, hi8, hy0, hy1, hy2⟩ := info_parts u8_info
  have hn0 : n0 = key.length := by rw [← h0.1, cb_len]
  have hn1 : n1 = b.length := by rw [← h1.1, cb_len]
  unfold maxLen at m0
  by_cases h32 : key.length = 32
  · have HK := Lib.hid h32
    rw [h32] at hn0
    subst hn0
    have HN1 := Lib.hid hn1
    have HTR : Hid (tagL key b = tagR key b) := by unfold Hid tagR; rw [if_pos h32]
    have HTE : Hid (tagE key = 0) := by unfold Hid tagE; rw [if_pos h32]
    have s1 := sl_take (h := 16) h0 (by omega)
    rw [show (cb key).take 16 = cb (key.take 16) by simp [cb]] at s1
    have s2 := sl_cut (k := 16) h0 (by omega) k0
    rw [show (cb key).drop 16 = cb (key.drop 16) by simp [cb]] at s2
    have HS2 := Lib.hid s2
    clear h32 hn1 s2
    go_enter Tryz.func74, Tryz.ntmps74
    go_wp2_with (refine wpList_slice_h rfl 22 _ _ rfl 5 Tryz.underlying22 u8_size A0 32 c0 16 .i64 _ rfl rfl rfl (by omega) ?_)
    refine (rdig_any (key.take 16) w _ A0 16 c0 s1 (Nat.le_refl _) (by omega)).mono ?_
    rintro e w1 ⟨A2, c2, rfl, hown, hb1⟩
    obtain ⟨x, hx⟩ : ∃ x, x = nb (key.take 16) := ⟨_, rfl⟩
    rw [← hx] at hown
    have HXL : Hid (x.length = 16) := by unfold Hid; rw [hx, nb_len, List.length_take, HK.out]; rfl
    have HXD : Hid (Dg x) := by unfold Hid; rw [hx]; exact nb_lt _
    have HRK : Hid (bv 256 (nB (nA x 4) 3) = rKy key) := by unfold Hid; rw [hx]; exact rK_eq key HK.out
    obtain ⟨g, cl, hAe, hgl, hgl2⟩ := hown.form (by omega)
    injection hAe with hA1 _ hA3
    subst hA1
    subst hA3
    clear hx s1 hgl2
    go_wp2
    go_loopw [7] (fun t wr => ∃ k : Nat, k ≤ 4 ∧ t = .int .i64 (3 + 4 * (k : Int)) ∧ wr.ownsRow w.heap.size 3 1 (.slice (some ⟨g, 0, none⟩) 16 c2) 16 (is (nA x k)) ∧ Below w.heap.size w wr) (fun t _ => (19 - intOf t).toNat)
    case atStart => exact ⟨0, by omega, rfl, hown, hb1⟩
    case round =>
      clear hown hb1
      obtain ⟨k, hk, rfl, hown, hb1⟩ := hrel
      by_cases hlt : k < 4
      · obtain ⟨s, hs⟩ : ∃ s, s = 3 + 4 * k := ⟨_, rfl⟩
        have es : 3 + 4 * (k : Int) = (s : Int) := by omega
        obtain ⟨d, hd⟩ : ∃ d, d = (nA x k).getD s 0 := ⟨_, rfl⟩
        have hdl : d < 256 := by rw [hd]; exact (nA_dg HXD.out k).at_ _
        have hcs : wr.cell? ⟨g, s, none⟩ = some (.int .i64 (d : Int)) := by rw [hown.cellAt s (by omega), is_getD (by rw [nA_len, HXL.out]; omega), hd]
        have hfs := hown.frozenAt s
        obtain ⟨d4, hd4⟩ : ∃ d4, d4 = d % 16 := ⟨_, rfl⟩
        have ed4 : (d : Int) % 16 = (d4 : Int) := by omega
        obtain ⟨hown2, hrest⟩ := hown.stored s (.int .i64 (d4 : Int))
        rw [is_set, hd4, hd, hs, ← nA, ← hs, ← hd, ← hd4] at hown2
        have hb2 := hb1.setCell (p := ⟨g, s, none⟩) hgl (.int .i64 (d4 : Int))
        have HO := Lib.hid hown2
        have HS := Lib.hid hs
        have hs0 : (0 : Int) ≤ (s : Int) := by omega
        have hs1 : (s : Int) < 16 := by omega
        rw [es]
        clear hd hd4 hs hown hown2 hrest hb1 es
        go_wp2
        go_roundw
        case rel => exact ⟨k + 1, by omega, by have := HS.out; go_num, HO.out, hb2⟩
        case measure => simp [intOf]; omega
      · have HK4 : Hid (k = 4) := (by omega : k = 4)
        rw [HK4.out] at hown
        obtain ⟨x4, hx4⟩ : ∃ x4, x4 = nA x 4 := ⟨_, rfl⟩
        rw [← hx4] at hown HRK
        have HX4L : Hid (x4.length = 16) := by unfold Hid; rw [hx4, nA_len, HXL.out]
        have HX4D : Hid (Dg x4) := by unfold Hid; rw [hx4]; exact nA_dg HXD.out 4
        have hq : ¬ (3 + 4 * (k : Int)) < 16 := by omega
        clear hx4
        go_wp2
        go_loopw [8] (fun t wr => ∃ k : Nat, k ≤ 3 ∧ t = .int .i64 (4 + 4 * (k : Int)) ∧ wr.ownsRow w.heap.size 3 1 (.slice (some ⟨g, 0, none⟩) 16 c2) 16 (is (nB x4 k)) ∧ Below w.heap.size w wr) (fun t _ => (19 - intOf t).toNat)
        case atStart => exact ⟨0, by omega, rfl, hown, hb1⟩
        case round =>
          clear hown hb1 hq
          obtain ⟨j, hj, rfl, hown, hb1⟩ := hrel
          by_cases hlt : j < 3
          · obtain ⟨s, hs⟩ : ∃ s, s = 4 + 4 * j := ⟨_, rfl⟩
            have es : 4 + 4 * (j : Int) = (s : Int) := by omega
            obtain ⟨d, hd⟩ : ∃ d, d = (nB x4 j).getD s 0 := ⟨_, rfl⟩
            have hdl : d < 256 := by rw [hd]; exact (nB_dg HX4D.out j).at_ _
            have hcs : wr.cell? ⟨g, s, none⟩ = some (.int .i64 (d : Int)) := by rw [hown.cellAt s (by omega), is_getD (by rw [nB_len, HX4L.out]; omega), hd]
            have hfs := hown.frozenAt s
            obtain ⟨d4, hd4⟩ : ∃ d4, d4 = d - d % 4 := ⟨_, rfl⟩
            have ed4 : (d : Int) - (d : Int) % 4 = (d4 : Int) := by omega
            obtain ⟨hown2, hrest⟩ := hown.stored s (.int .i64 (d4 : Int))
            rw [is_set, hd4, hd, hs, ← nB, ← hs, ← hd, ← hd4] at hown2
            have hb2 := hb1.setCell (p := ⟨g, s, none⟩) hgl (.int .i64 (d4 : Int))
            have HO := Lib.hid hown2
            have HS := Lib.hid hs
            have hs0 : (0 : Int) ≤ (s : Int) := by omega
            have hs1 : (s : Int) < 16 := by omega
            rw [es]
            clear hd hd4 hs hown hown2 hrest hb1 es
            go_wp2
            go_still_tail 13, (by kernel_rfl)
            go_wp2
            go_roundw
            case rel => exact ⟨j + 1, by omega, by have := HS.out; go_num, HO.out, hb2.drew⟩
            case measure => simp [intOf]; omega
          · have HJ : Hid (j = 3) := (by omega : j = 3)
            rw [HJ.out] at hown
            obtain ⟨r, hr⟩ : ∃ r, r = nB x4 3 := ⟨_, rfl⟩
            rw [← hr] at hown HRK
            have HRD : Hid (Dg r) := by unfold Hid; rw [hr]; exact nB_dg HX4D.out 3
            have hq : ¬ (4 + 4 * (j : Int)) < 16 := by omega
            have hsr := Sl.own hown
            clear hr hown
            obtain ⟨w5, hw5⟩ : ∃ x, x = wr := ⟨wr, rfl⟩
            subst hw5
            go_wp2
            go_loopw [9, 10] (fun v t wr => ∃ (k s : Nat) (z : List Nat) (A : Option Addr) (n c : Nat), s = 16 * k ∧ s < n1 + 16 ∧ t = .int .i64 (s : Int) ∧ v = .slice A n c ∧ n ≤ 18 ∧ Dg z ∧ bv 256 z = pk (rKy key) b k ∧ Sl wr wr.heap.size A n (is z) ∧ Sl wr wr.heap.size (some ⟨g, 0, none⟩) 16 (is r) ∧ Below w.heap.size w wr) (fun _ t _ => n1 + 16 - (intOf t).toNat)
            case atStart => exact ⟨0, 0, [], none, 0, 0, rfl, by omega, rfl, rfl, by omega, dg_nil, rfl, Sl.nil_, hsr, hb1⟩
            case round =>
              clear hsr hb1
              obtain ⟨k, s, z, A3, n3, c3, hks, hsn, rfl, rfl, hn3, hzd, hzv, hsz, hsr, hb1⟩ := hrel
              by_cases hlt : s < n1
              · obtain ⟨p, hp⟩ : ∃ p, p = (b.drop s).take 16 := ⟨_, rfl⟩
                obtain ⟨q, hqd⟩ : ∃ q, q = p.length := ⟨_, rfl⟩
                have hql : q ≤ 16 := by rw [hqd, hp, List.length_take]; omega
                have hq1 : 1 ≤ q := by rw [hqd, hp, List.length_take, List.length_drop, ← HN1.out]; omega
                have hqs : s + q ≤ n1 := by rw [hqd, hp, List.length_take, List.length_drop, ← HN1.out]; omega
                have hmq : (q = 16 ∧ ¬ (n1 : Int) < (s : Int) + 16) ∨ (s + q = n1 ∧ (n1 : Int) < (s : Int) + 16) := by
                  have : q = min 16 (n1 - s) := by rw [hqd, hp, List.length_take, List.length_drop, ← HN1.out]
                  omega
                have hsb := sl_mid (l := s) (h := s + q) (h1.below hb1) (by omega) hqs k1
                have hpe : ((cb b).drop s).take (s + q - s) = cb p := by
                  rw [← cb_slice, show s + q - s = q by omega, hp]
                  congr 1
                  rw [hqd, hp, List.length_take]
                  exact List.take_eq_take_min.symm
                rw [hpe, show s + q - s = q by omega] at hsb
                have HPK : Hid ((pk (rKy key) b k + blkv p) * rKy key % pN = pk (rKy key) b (k + 1)) := by unfold Hid; rw [pk, ← hks, ← hp]
                have HPV : Hid (bv 256 (nb p ++ [1]) = blkv p) := by unfold Hid blkv lv; rw [bv_snoc, nb_len]; omega
                have HPD : Hid (Dg (nb p ++ [1])) := by unfold Hid; exact Dg.snoc (nb_lt p) (by omega)
                have HZD := Lib.hid hzd
                have HZV := Lib.hid hzv
                have HKS := Lib.hid hks
                have hslI : (s : Int) < (n1 : Int) := by omega
                have hb1z := hb1.size
                clear hp hqd hpe hzd hzv hks
                rcases hmq with ⟨hm1, hm2⟩ | ⟨hm1, hm2⟩
                all_goals
                  have HM1 := Lib.hid hm1
                  clear hm1
                  go_wp2_with (refine wpList_slice_lh rfl 22 _ _ _ rfl 5 Tryz.underlying22 u8_size A1 n1 c1 s (s + q) .i64 .i64 _ _ rfl rfl rfl rfl (by have := HM1.out; omega) (by omega) (by omega) z1 ?_; intro A4 HA4)
                  rw [← HA4.out] at hsb
                  refine (rdig_any p _ _ A4 q _ hsb (by omega) (by omega)).mono ?_
                  rintro e w6 ⟨A6, c6, rfl, hown6, hb6⟩
                  go_wp2_with (at_builtin; refine wpList_append_own_at _ rfl _ _ 75 rfl wr.heap.size 3 i0 (.int .i64 0) 1 8 Tryz.underlying75 hi hz0 hz1 hz2 rfl (by decide) _ _ _ rfl (hown6.alloc _) ⟨w6.heap.size, 0, none⟩ 1 1 _ rfl rfl (cell_one_new _ _ _) (by simp [Value.oneCell']) (by unfold maxLen; omega) (by omega) (by have := hb6.size; simp; omega) ?_; intro v7 w7 hown7 hgrow hnil hat; obtain ⟨A7, c7, rfl⟩ := own_form hown7)
                  have hb7 := below_app1 hb6 (Nat.le_refl _) hown6 hgrow
                  have hs7 : Sl w7 w7.heap.size A7 (q + 1) (is (nb p ++ [1])) := by
                    rw [is_append]
                    exact Sl.own hown7
                  replace hsz := hsz.nx hb7
                  replace hsr := hsr.nx hb7
                  replace hb1 := next hb1 hb7
                  clear hown6 hown7 hgrow hnil hat hb6 hb7 hsb
                  obtain ⟨N1, hN1⟩ : ∃ N, N = Nat.max n3 (q + 1) + 1 := ⟨_, rfl⟩
                  have hN1B : N1 ≤ 19 ∧ 1 ≤ N1 := by rw [hN1]; unfold Nat.max; omega
                  have HN1D := Lib.hid hN1
                  clear hN1
                  refine (rsum_any z (nb p ++ [1]) w7 _ _ _ _ _ _ _ _ hsz hs7 HZD.out HPD.out (Nat.le_refl _) (Nat.le_refl _) (by omega) (by omega) N1 HN1D.out).mono ?_
                  rintro e w8 ⟨z8, A8, c8, rfl, hl8, hd8, hv8, hown8, hb8⟩
                  have hs8 := Sl.own hown8
                  replace hsr := hsr.nx hb8
                  replace hb1 := next hb1 hb8
                  have HV8 : Hid (bv 256 z8 = pk (rKy key) b k + blkv p) := by unfold Hid; rw [hv8, HZV.out, HPV.out]
                  clear hv8 hown8 hb8 hs7 hsz
                  go_wp2_with fail
                  obtain ⟨N2, hN2⟩ : ∃ N, N = N1 + 16 + 1 := ⟨_, rfl⟩
                  have hN2B : 18 ≤ N2 ∧ N2 ≤ 36 := by omega
                  have HN2D := Lib.hid hN2
                  clear hN2
                  refine (rprod_any z8 r w8 _ _ _ _ _ _ _ _ hs8 hsr hd8 HRD.out (Nat.le_refl _) (Nat.le_refl _) (by omega) (by omega) N2 HN2D.out).mono ?_
                  rintro e w9 ⟨z9, A9, c9, rfl, hl9, hd9, hv9, hown9, hb9⟩
                  have hs9 := Sl.own hown9
                  replace hsr := hsr.nx hb9
                  replace hb1 := next hb1 hb9
                  have HV9 : Hid (bv 256 z9 = (pk (rKy key) b k + blkv p) * rKy key) := by unfold Hid; rw [hv9, HV8.out, HRK.out]
                  have HF9 := Lib.hid (fold3 (bv 256 z9) (Nat.lt_of_lt_of_le hd9.lt (by rw [hl9]; exact Nat.le_trans (Nat.pow_le_pow_right (n := 256) (by decide) hN2B.2) (by decide))))
                  clear hv9 hown9 hb9 hs8
                  go_wp2_with fail
                  refine (rfold_any z9 w9 _ _ N2 _ hs9 hd9 (Nat.le_refl _) (by omega) (by omega)).mono ?_
                  rintro e w10 ⟨z10, A10, c10, rfl, hd10, hv10, hs10, hb10⟩
                  rw [fN_18 N2 hN2B.1 hN2B.2] at hs10 ⊢
                  replace hsr := hsr.nx hb10
                  replace hb1 := next hb1 hb10
                  have HL10 : Hid (bv 256 z10 < 1361129467683753853853498429727072845824) := by unfold Hid; rw [hv10]; exact HF9.out.1
                  have HV10 : Hid (bv 256 z10 % pN = pk (rKy key) b (k + 1)) := by unfold Hid; rw [hv10, HF9.out.2, HV9.out, HPK.out]
                  clear hv10 hb10 hs9
                  go_wp2_with fail
                  refine (rleast_any z10 w10 A10 c10 hs10 hd10 HL10.out).mono ?_
                  rintro e w11 ⟨z11, A11, n11, c11, rfl, hn11, hd11, hv11, hs11, hb11⟩
                  rw [HV10.out] at hv11
                  replace hsr := hsr.nx hb11
                  replace hb1 := next hb1 hb11
                  have HV11 := Lib.hid hv11
                  have HD11 := Lib.hid hd11
                  clear hv11 hd11 hs10 hb11
                  go_wp2
                  go_roundw
                  case rel => exact ⟨k + 1, s + 16, z11, A11, n11, c11, by rw [HKS.out]; omega, by omega, by go_num, rfl, hn11, HD11.out, HV11.out, hs11, hsr, hb1⟩
                  case measure => simp [intOf]; omega
              · have HKK : Hid (k = (b.length + 15) / 16) := by unfold Hid; rw [← HN1.out]; omega
                have HZV := Lib.hid hzv
                have HZD := Lib.hid hzd
                have hslI : ¬ (s : Int) < (n1 : Int) := by omega
                obtain ⟨w6, hw6⟩ : ∃ x, x = wr := ⟨wr, rfl⟩
                subst hw6
                clear hks hzv hzd hsr
                go_wp2_with (refine wpList_slice_from rfl 22 _ _ rfl 5 Tryz.underlying22 u8_size A0 32 c0 16 .i64 _ rfl rfl rfl (by omega) k0 z0 ?_; intro A4 HA4)
                have hsk := HS2.out
                rw [← HA4.out] at hsk
                replace hsk := hsk.below hb1
                refine (rdig_any (key.drop 16) w6 _ A4 _ _ hsk hb1.size (by omega)).mono ?_
                rintro e w7 ⟨A7, c7, rfl, hown7, hb7⟩
                have hs7 := Sl.own hown7
                replace hsz := hsz.nx hb7
                replace hb1 := next hb1 hb7
                clear hown7 hb7 hsk
                go_wp2_with fail
                obtain ⟨N1, hN1⟩ : ∃ N, N = Nat.max n3 (32 - 16) + 1 := ⟨_, rfl⟩
                have hN1B : N1 ≤ 19 ∧ 17 ≤ N1 := by rw [hN1]; unfold Nat.max; omega
                have HN1D := Lib.hid hN1
                clear hN1
                refine (rsum_any z (nb (key.drop 16)) w7 _ _ _ _ _ _ _ _ hsz hs7 HZD.out (nb_lt _) (Nat.le_refl _) (Nat.le_refl _) (by omega) (by omega) N1 HN1D.out).mono ?_
                rintro e w8 ⟨z8, A8, c8, rfl, hl8, hd8, hv8, hown8, hb8⟩
                have hs8 := Sl.own hown8
                replace hb1 := next hb1 hb8
                obtain ⟨V, hV⟩ : ∃ V, V = bv 256 z8 := ⟨_, rfl⟩
                have HVV : Hid (le V 16 = tagR key b) := by unfold Hid; rw [← HTR.out, hV, hv8, HZV.out, HKK.out]; rfl
                have HV := Lib.hid hV
                have HD8 := Lib.hid hd8
                have HL8 := Lib.hid hl8
                obtain ⟨w9, hw9⟩ : ∃ x, x = w8 := ⟨w8, rfl⟩
                subst hw9
                clear hv8 hown8 hb8 hs7 hsz hV hd8 hl8
                go_wp2
                go_loopw [12, 13] (fun v t wr => ∃ (j : Nat), j ≤ 16 ∧ t = .int .i64 j ∧ wr.ownsRow w9.heap.size 5 1 v j (cb ((le V 16).take j)) ∧ Below w9.heap.size w9 wr) (fun _ t _ => 16 - (intOf t).toNat)
                case atStart => exact ⟨0, by omega, rfl, World.ownsRow_nil _ _ _ _, Below.refl _ _⟩
                case round =>
                  obtain ⟨j, hj, rfl, hown, hb9⟩ := hrel
                  have hbw := hb1.trans (hb9.mono hb1.size)
                  by_cases hjl : j < 16
                  · obtain ⟨y, hy⟩ : ∃ y, y = z8.getD j 0 := ⟨_, rfl⟩
                    have HY := Lib.hid hy
                    have hyl : y < 256 := by rw [hy]; exact HD8.out.at_ j
                    have HT := Lib.hid (le_take V j y hjl (by rw [hy, HV.out]; exact digit_at z8 HD8.out j (by rw [HL8.out]; omega)))
                    have hs9 := hs8.below hb9
                    have hsz9 := hb9.size
                    clear hy
                    go_wp2_with fail
                    refine (rat_to z8 j y _ _ _ _ _ hs9 (by omega) (by omega) HY.out).mono ?_
                    rintro e w10 ⟨rfl, rfl⟩
                    go_wp2_with (at_builtin; refine wpList_append_own_at _ rfl _ _ 22 rfl w9.heap.size 5 i8 (.int .u8 0) 1 1 Tryz.underlying22 hi8 hy0 hy1 hy2 rfl (by decide) _ _ _ rfl (hown.alloc _) ⟨w10.heap.size, 0, none⟩ 1 1 _ rfl rfl (cell_one_new _ _ _) (by simp [Value.oneCell']) (by unfold maxLen; omega) (by omega) (by simp; omega) ?_; intro v' w3 hown' hgrow hnil hat)
                    have hb10 := below_app1 hb9 (Nat.le_refl _) hown hgrow
                    refine ⟨⟨j + 1, by omega, by go_num, ?_, hb10⟩, by simp [intOf]; omega⟩
                    rw [HT.out]
                    exact hown'
                  · have HJ16 : Hid (j = 16) := (by omega : j = 16)
                    have hj16 : ¬ (j : Int) < 16 := by omega
                    go_wp2
                    obtain ⟨A9, c9, rfl⟩ := own_form hown
                    go_ret2
                    rw [HJ16.out, List.take_of_length_le (by rw [le_len]; omega), HVV.out] at hown
                    rw [HJ16.out]
                    exact retSl rfl (by rw [HTE.out]) (newSl_of ⟨hown, hb9⟩ hb1 (by rw [← HVV.out, le_len]))

  · have HK := Lib.hid h32
    have hq : ((n0 : Int) != 32) = true := by simp; omega
    clear h32
    go_enter Tryz.func74, Tryz.ntmps74
    go_wp2
    go_ret2
    exact retSl (by unfold tagR; rw [if_neg HK.out]) (by unfold tagE; rw [if_neg HK.out]) (newSl_nil w)

end Go.Proofs.YtlnoopmblmkgkaaGreatDoor
