/- Package rolling: a Roll in memory; New, Push, Value, Reset, Copy, Of; a Roll that is not there. -/
import Derived.Test.YtkopdkamhkmefaaRolR
namespace Go.Proofs.Ytkopdkamhkmefaa
set_option maxRecDepth 100000
open Go Go.RowKit
set_option linter.unusedVariables false
set_option linter.unusedSimpArgs false

/-- The fingerprint behind bytes, as Of tells it, and its error. -/
def rolV (m : Nat) (l : List UInt8) : Nat := if rolOk m = true then fpr m (nb2 m - 1) l else 0
def rolE (m : Nat) : Int := if rolOk m = true then 0 else 6
theorem fpr_lt64 {m d : Nat} (hd : Deg m d) (h : d ≤ 53) (l : List UInt8) : fpr m d l < 18446744073709551616 := by
  have h1 : fpr m d l < 2 ^ d := pr_lt hd _
  have h2 : 2 ^ d ≤ 2 ^ 53 := Nat.pow_le_pow_right (by decide) h
  omega
theorem rolV_lt {m : Nat} (hm : m < 18446744073709551616) (l : List UInt8) : rolV m l < 18446744073709551616 := by
  unfold rolV
  split
  · rename_i h
    obtain ⟨d, hd, _, h2, h3, _⟩ := rolOk_deg h hm
    rw [show nb2 m - 1 = d by omega]
    exact fpr_lt64 hd h2 l
  · omega
theorem rolV_deg {m d : Nat} (h : rolOk m = true) (hm : m < 18446744073709551616) (hd : nb2 m = d + 1) (l : List UInt8) : rolV m l = fpr m d l := by
  unfold rolV
  rw [if_pos h, show nb2 m - 1 = d by omega]
theorem deg_lt64 {m d : Nat} (hd : Deg m d) (h : d ≤ 53) : m < 18446744073709551616 := by
  have h1 := hd.2
  have h2 : 2 ^ (d + 1) ≤ 2 ^ 54 := Nat.pow_le_pow_right (by decide) (by omega)
  omega
theorem pr_lt53 {m d : Nat} (hd : Deg m d) (h : d ≤ 53) (a : Nat) : pr m d a < 9007199254740992 := Nat.lt_of_lt_of_le (pr_lt hd a) (Nat.pow_le_pow_right (n := 2) (by decide) h)

/-- A Roll's cells: the polynomial, what a byte 1 that goes out counts for, the window, the fingerprint. -/
def rlc (m d : Nat) (x : List UInt8) (v : Nat) : List Value := .int .u64 (m : Nat) :: .int .u64 (pr m d (2 ^ 128) : Nat) :: (cb x ++ [.int .u64 (v : Nat)])
theorem rlc_m (m d v : Nat) (x : List UInt8) : (rlc m d x v)[0]? = some (.int .u64 (m : Nat)) := rfl
theorem rlc_gone (m d v : Nat) (x : List UInt8) : (rlc m d x v)[1]? = some (.int .u64 (pr m d (2 ^ 128) : Nat)) := rfl
theorem six (x : List UInt8) (h : x.length = 16) : ∃ a b c d e f g i j k l n o p q r, x = [a, b, c, d, e, f, g, i, j, k, l, n, o, p, q, r] := by
  obtain ⟨a, x, rfl⟩ := List.exists_cons_of_length_eq_add_one (n := 15) h
  obtain ⟨b, x, rfl⟩ := List.exists_cons_of_length_eq_add_one (n := 14) (by simpa using h)
  obtain ⟨c, x, rfl⟩ := List.exists_cons_of_length_eq_add_one (n := 13) (by simpa using h)
  obtain ⟨d, x, rfl⟩ := List.exists_cons_of_length_eq_add_one (n := 12) (by simpa using h)
  obtain ⟨e, x, rfl⟩ := List.exists_cons_of_length_eq_add_one (n := 11) (by simpa using h)
  obtain ⟨f, x, rfl⟩ := List.exists_cons_of_length_eq_add_one (n := 10) (by simpa using h)
  obtain ⟨g, x, rfl⟩ := List.exists_cons_of_length_eq_add_one (n := 9) (by simpa using h)
  obtain ⟨i, x, rfl⟩ := List.exists_cons_of_length_eq_add_one (n := 8) (by simpa using h)
  obtain ⟨j, x, rfl⟩ := List.exists_cons_of_length_eq_add_one (n := 7) (by simpa using h)
  obtain ⟨k, x, rfl⟩ := List.exists_cons_of_length_eq_add_one (n := 6) (by simpa using h)
  obtain ⟨l, x, rfl⟩ := List.exists_cons_of_length_eq_add_one (n := 5) (by simpa using h)
  obtain ⟨n, x, rfl⟩ := List.exists_cons_of_length_eq_add_one (n := 4) (by simpa using h)
  obtain ⟨o, x, rfl⟩ := List.exists_cons_of_length_eq_add_one (n := 3) (by simpa using h)
  obtain ⟨p, x, rfl⟩ := List.exists_cons_of_length_eq_add_one (n := 2) (by simpa using h)
  obtain ⟨q, x, rfl⟩ := List.exists_cons_of_length_eq_add_one (n := 1) (by simpa using h)
  obtain ⟨r, x, rfl⟩ := List.exists_cons_of_length_eq_add_one (n := 0) (by simpa using h)
  obtain rfl : x = [] := List.eq_nil_of_length_eq_zero (by simpa using h)
  exact ⟨a, b, c, d, e, f, g, i, j, k, l, n, o, p, q, r, rfl⟩
section
variable {m d v : Nat} {x : List UInt8} (h : x.length = 16)
include h
theorem rlc_len : (rlc m d x v).length = 19 := by unfold rlc; simp [cb_len, h]
theorem rlc_old : (rlc m d x v)[2]? = some (.int .u8 ((x.headD 0).toNat : Nat)) := by
  obtain ⟨a, b, c, d, e, f, g, i, j, k, l, n, o, p, q, r, rfl⟩ := six x h
  rfl
theorem rlc_v : (rlc m d x v)[18]? = some (.int .u64 (v : Nat)) := by
  obtain ⟨a, b, c, d, e, f, g, i, j, k, l, n, o, p, q, r, rfl⟩ := six x h
  rfl
theorem rlc_set (u : Nat) : (rlc m d x v).set 18 (.int .u64 (u : Nat)) = rlc m d x u := by
  obtain ⟨a, b, c, d, e, f, g, i, j, k, l, n, o, p, q, r, rfl⟩ := six x h
  rfl
theorem rlc_tail : ((rlc m d x v).drop 3).take 15 = cb x.tail := by
  obtain ⟨a, b, c, d, e, f, g, i, j, k, l, n, o, p, q, r, rfl⟩ := six x h
  rfl
theorem rlc_17 : (splice (rlc m d x v) 2 (cb x.tail))[17]? = some (.int .u8 ((x.getD 15 0).toNat : Nat)) := by
  obtain ⟨a, b, c, d, e, f, g, i, j, k, l, n, o, p, q, r, rfl⟩ := six x h
  rfl
theorem rlc_move (y : UInt8) : (splice (rlc m d x v) 2 (cb x.tail)).set 17 (.int .u8 (y.toNat : Nat)) = rlc m d (x.tail ++ [y]) v := by
  obtain ⟨a, b, c, d, e, f, g, i, j, k, l, n, o, p, q, r, rfl⟩ := six x h
  rfl
end
theorem rlc_one (m d v : Nat) (x : List UInt8) : ∀ c ∈ rlc m d x v, c.oneCell' = true := by
  intro c hc
  unfold rlc at hc
  rw [List.mem_cons, List.mem_cons, List.mem_append] at hc
  rcases hc with rfl | rfl | hc | hc
  · rfl
  · rfl
  · exact cb_one _ c hc
  · rw [List.mem_singleton] at hc; subst hc; rfl

/-- A Roll in memory: g its block, l what was pushed. -/
structure Rl (w : World) (g m d : Nat) (l : List UInt8) : Prop where
  bl : Bl w g (rlc m d (winW l) (fpr m d l)) 56
  deg : Deg m d
  le : d ≤ 53
theorem Rl.lt {w : World} {g m d : Nat} {l : List UInt8} (h : Rl w g m d l) : g < w.heap.size := h.bl.lt /- 56 -/
theorem Rl.next {w w' : World} {g m d : Nat} {l : List UInt8} (h : Rl w g m d l) (hb : Below w.heap.size w w') : Rl w' g m d l := ⟨h.bl.next hb, h.deg, h.le⟩ /- 56 -/
theorem Rl.but {w w' : World} {g m d : Nat} {l : List UInt8} {k : Nat} (h : Rl w g m d l) (hg : w.grownBy w' (some k)) (hk : k ≠ g) : Rl w' g m d l := ⟨h.bl.grown hg (fun e => hk (by injection e)), h.deg, h.le⟩ /- 56 -/
/-- What is told of a Roll that has turned. -/
def RolPost (w : World) (g m d : Nat) (l : List UInt8) (v : Value) (e : Ending) (w' : World) : Prop := e = .returned v ∧ Rl w' g m d l ∧ w.grownBy w' (some g) /- 56 -/

theorem size_roll : (Try.prog.info? 56).map (·.size) = some 19 := by kernel_rfl
theorem zero_roll : (Try.prog.info? 56).map (·.zero) = some (some (.agg (.int .u64 0 :: .int .u64 0 :: (cb (List.replicate 16 0) ++ [.int .u64 0])).toArray)) := by kernel_rfl
theorem built_roll (a b : Int) : Try.prog.built 56 [(0, .int .u64 a), (1, .int .u64 b)] = some (.int .u64 a :: .int .u64 b :: (cb (List.replicate 16 0) ++ [.int .u64 0])).toArray := by kernel_rfl

set_option maxHeartbeats 1000000 in
theorem shifted_any (v b m d : Nat) (w : World) (hv : v < 2 ^ d) (hb : b < 256) (hm : Deg m d) (hd : d ≤ 53) :
    Calls Try.prog 36 #[.int .u64 v, .int .u8 b, .int .u64 m] w fun e w' => e = .returned (.int .u64 (pr m d (v * 256 + b) : Nat)) ∧ w = w' := by
  have hm64 := deg_lt64 hm hd
  have H0 : Hid (v = pr m d (bitsV v b 0)) := by unfold Hid; rw [bitsV_zero v b hb, pr_self hm hv]
  have H8 : Hid (pr m d (v * 256 + b) = pr m d (bitsV v b 8)) := by unfold Hid; rw [bitsV_all]
  obtain ⟨V, hV⟩ : ∃ V, V = pr m d (v * 256 + b) := ⟨_, rfl⟩
  rw [← hV] at H8 ⊢
  have HM := Lib.hid hm
  have HM64 := Lib.hid hm64
  clear hV hm hm64
  go_enter Try.func36, Try.ntmps36
  go_wp2
  go_loop [0, 9] (fun x i => ∃ k c : Nat, k ≤ 8 ∧ i = .int .i64 k ∧ x = .int .u64 (c : Int) ∧ c = pr m d (bitsV v b k)) (fun _ i => 8 - (intOf i).toNat)
  case atStart => exact ⟨0, v, by decide, rfl, rfl, H0.out⟩
  case round =>
    obtain ⟨k, c, hk, rfl, rfl, hc⟩ := hrel
    by_cases hlt : k < 8
    · obtain ⟨s, hs⟩ : ∃ s, s = 7 - k := ⟨_, rfl⟩
      have es : (7 : Int) - (k : Int) = (s : Int) := by omega
      have hs7 : s ≤ 7 := by omega
      obtain ⟨q, hq⟩ : ∃ q, q = b / 2 ^ s := ⟨_, rfl⟩
      have eq1 : (b : Int) / 2 ^ s = (q : Int) := by rw [hq]; simp
      have hql : q < 256 := by rw [hq]; exact Nat.lt_of_le_of_lt (Nat.div_le_self _ _) hb
      obtain ⟨z, hz⟩ : ∃ z, z = q % 2 := ⟨_, rfl⟩
      have hz2 : z < 2 := by omega
      have ez : bits BinOp.and IntKind.u8 (q : Int) 1 = (z : Int) := by
        have := u8_and_nat q 1 hql (by decide)
        rw [Nat.and_one_is_mod, ← hz] at this
        exact this
      have hcl : c < 9007199254740992 := by rw [hc]; exact pr_lt53 HM.out hd _
      have HNX := Lib.hid (pr_bit HM.out (bitsV v b k) z hz2)
      have hbn := bitsV_next v b k hlt
      rw [← hs, ← hq, ← hz] at hbn
      rw [hbn, ← hc] at HNX
      obtain ⟨y, hy⟩ : ∃ y, y = 2 * c + z := ⟨_, rfl⟩
      rw [← hy] at HNX
      have hyl : y < 18446744073709551616 := by omega
      obtain ⟨c1, hc1⟩ : ∃ c1, c1 = 2 * c := ⟨_, rfl⟩
      have ec1 : (c : Int) * 2 = (c1 : Int) := by omega
      have ey : bits BinOp.or IntKind.u64 (c1 : Int) (z : Int) = (y : Int) := by
        have h3 := u64_or_nat c1 z (by omega) (by omega)
        rw [h3, hy, hc1]
        congr 1
        have h4 : 2 * c + z = 2 ^ 1 * c + z := by omega
        rw [h4, Nat.two_pow_add_eq_or_of_lt (by simpa using hz2)]
      obtain ⟨c2, hc2⟩ : ∃ c2, c2 = pr m d (bitsV v b (k + 1)) := ⟨_, rfl⟩
      rw [← hc2] at HNX
      have HC2 := Lib.hid hc2
      have h0 : (0 : Int) ≤ (s : Int) := by omega
      have h7 : (s : Int) < 8 := by omega
      have h1 : ¬ (s : Int) < 0 := by omega
      clear hc hq hz hbn hy hc1 hc2 hs
      go_wp2_with fail
      refine (mod_to y m d c2 _ hyl HM64.out HM.out HNX.out.symm).mono ?_
      rintro e w1 ⟨rfl, rfl⟩
      go_wp2
      go_round
      case rel => exact ⟨k + 1, c2, by omega, by go_num, rfl, HC2.out⟩
      case measure => simp [intOf]; omega
    · have hk8 : k = 8 := by omega
      have HE : Hid (V = c) := by unfold Hid; rw [H8.out, hc, hk8]
      clear hc hk8
      go_wp2
      go_ret
      exact ⟨by rw [HE.out]; rfl, rfl⟩

theorem rlc_new (m d : Nat) : (.int .u64 (m : Nat) :: .int .u64 (pr m d (2 ^ 128) : Nat) :: (cb (List.replicate 16 0) ++ [.int .u64 0]) : List Value) = rlc m d (winW []) (fpr m d []) := by
  rw [winW_nil, fpr_nil]
  rfl

/-- What New does, where it makes a Roll. -/
def RolNew (w : World) (m d : Nat) (e : Ending) (w' : World) : Prop := ∃ g, e = .returned (.tuple #[.pointer (some ⟨g, 0, none⟩), .int .i64 0]) ∧ w.heap.size ≤ g ∧ Rl w' g m d [] ∧ Below w.heap.size w w' /- 56 -/

set_option maxHeartbeats 1000000 in
theorem rolnew_ok (m d : Nat) (w : World) (h : rolOk m = true) (hd : Deg m d) (hm : m < 18446744073709551616) :
    Calls Try.prog 28 #[.int .u64 m] w (RolNew w m d) := by
  obtain ⟨d', hd', h9, h53, hnb, _⟩ := rolOk_deg h hm
  obtain rfl : d' = d := hd'.uniq hd
  clear hd' h
  have HD := Lib.hid hd
  have HM := Lib.hid hm
  have HNB := Lib.hid hnb
  obtain ⟨G, hG⟩ : ∃ G, G = pr m d' (2 ^ 128) := ⟨_, rfl⟩
  have HG := Lib.hid hG
  have H0 : Hid (1 = pr m d' (2 ^ (8 * 0))) := by
    unfold Hid
    rw [Nat.mul_zero, Nat.pow_zero, pr_self hd (Nat.one_lt_two_pow (by omega))]
  have q1 : ¬ (d' : Int) < 9 := by omega
  have q2 : ¬ (53 : Int) < (d' : Int) := by omega
  clear hd hm hnb hG
  go_enter Try.func28, Try.ntmps28
  go_wp2_with fail
  refine (degree_to m d' _ HM.out HNB.out).mono ?_
  rintro e w1 ⟨rfl, rfl⟩
  go_wp2
  go_loop [5, 14] (fun x i => ∃ k c : Nat, k ≤ 16 ∧ i = .int .i64 k ∧ x = .int .u64 (c : Int) ∧ c = pr m d' (2 ^ (8 * k))) (fun _ i => 16 - (intOf i).toNat)
  case atStart => exact ⟨0, 1, by decide, rfl, rfl, H0.out⟩
  case round =>
    obtain ⟨k, c, hk, rfl, rfl, hc⟩ := hrel
    by_cases hlt : k < 16
    · have hcl : c < 2 ^ d' := by rw [hc]; exact pr_lt HD.out _
      obtain ⟨c2, hc2⟩ : ∃ c2, c2 = pr m d' (c * 256 + 0) := ⟨_, rfl⟩
      have HC2 : Hid (c2 = pr m d' (2 ^ (8 * (k + 1)))) := by
        unfold Hid
        rw [hc2, hc, Nat.add_zero, show (256 : Nat) = 2 ^ 8 from rfl, pr_up HD.out, ← Nat.pow_add]
        rfl
      have HC := Lib.hid hc2
      have HCL := Lib.hid hcl
      clear hc hc2 hcl
      go_wp2_with fail
      refine (shifted_any c 0 m d' _ HCL.out (by decide) HD.out h53).mono ?_
      rintro e w1 ⟨rfl, rfl⟩
      rw [← HC.out]
      go_wp2
      go_round
      case rel => exact ⟨k + 1, c2, by omega, by go_num, rfl, HC2.out⟩
      case measure => simp [intOf]; omega
    · have hk8 : k = 16 := by omega
      have HE : Hid (c = G) := by unfold Hid; rw [HG.out, hc, hk8]
      clear hc hk8
      go_wp2_with (refine wpList_build_to rfl 56 _ rfl _ (built_roll _ _) ?_)
      go_ret2
      refine ⟨w.heap.size, rfl, Nat.le_refl _, ⟨?_, HD.out, h53⟩, (Below.refl _ w).alloc (Nat.le_refl _) _⟩
      rw [HE.out, HG.out, ← rlc_new]
      exact Bl.new w _ _

theorem rolnew_bad (m : Nat) (w : World) (h : rolOk m = false) (hm : m < 18446744073709551616) :
    Calls Try.prog 28 #[.int .u64 m] w fun e w' => e = .returned (.tuple #[.pointer none, .int .i64 6]) ∧ Below w.heap.size w w' := by
  have hn : nb2 m < 10 ∨ 54 < nb2 m := by
    unfold rolOk at h
    simp only [Bool.and_eq_false_iff, decide_eq_false_iff_not] at h
    omega
  have HD := Lib.hid (degree_any m w hm)
  obtain ⟨n, hnn⟩ : ∃ n, n = nb2 m := ⟨_, rfl⟩
  rw [← hnn] at HD hn
  clear hnn h hm
  rcases hn with h1 | h1
  · have q1 : (n : Int) - 1 < 9 := by omega
    go_enter Try.func28, Try.ntmps28
    go_wp2_with fail
    refine HD.out.mono ?_
    rintro e w1 ⟨rfl, rfl⟩
    go_wp2
    go_ret2
    exact ⟨rfl, Below.refl _ _⟩
  · have q1 : ¬ (n : Int) - 1 < 9 := by omega
    have q2 : (53 : Int) < (n : Int) - 1 := by omega
    go_enter Try.func28, Try.ntmps28
    go_wp2_with fail
    refine HD.out.mono ?_
    rintro e w1 ⟨rfl, rfl⟩
    go_wp2
    go_ret2
    exact ⟨rfl, Below.refl _ _⟩

/-- What comes out of Push: the byte shifted in, what goes out taken away. -/
theorem fpr_push2 {m d : Nat} (hm : Deg m d) (l : List UInt8) (b : UInt8) : pr m d (fpr m d l * 256 + b.toNat) ^^^ pr m d (pm (pr m d (2 ^ 128)) ((winW l).headD 0).toNat) = fpr m d (l ++ [b]) := by
  have hb := b.toNat_lt
  generalize hF : fpr m d l = F
  generalize ho : ((winW l).headD 0).toNat = o
  have e1 : F * 256 + b.toNat = F * 2 ^ 8 ^^^ b.toNat := up_xor F 8 _ (by omega)
  have e2 : pr m d (pm (pr m d (2 ^ 128)) o) = pr m d (o * 2 ^ 120 * 2 ^ 8) := by
    rw [Nat.mul_assoc, ← Nat.pow_add, Nat.mul_comm, ← pm_pow, pm_comm, pm_comm (2 ^ 128), ← cg_iff hm]
    exact ((cg_pr hm (2 ^ 128)).symm).left o
  have e3 : ∀ X, (F ^^^ X) * 2 ^ 8 = F * 2 ^ 8 ^^^ X * 2 ^ 8 := fun X => by
    rw [← Nat.shiftLeft_eq, ← Nat.shiftLeft_eq, ← Nat.shiftLeft_eq, Nat.shiftLeft_xor_distrib]
  rw [fpr_push hm, hF, ho, e1, e2, e3 (pr m d _), pr_xor hm, pr_xor hm, pr_xor hm, pr_up hm, Nat.xor_assoc, Nat.xor_assoc, Nat.xor_comm (pr m d b.toNat)]

set_option maxRecDepth 100000 in
set_option maxHeartbeats 2000000 in
theorem rolpush_any (g m d : Nat) (l : List UInt8) (b : UInt8) (w : World) (h : Rl w g m d l) :
    Calls Try.prog 30 #[.pointer (some ⟨g, 0, none⟩), .int .u8 (b.toNat : Int)] w (RolPost w g m d (l ++ [b]) (.int .u64 (fpr m d (l ++ [b]) : Nat))) := by
  have hbl := h.bl
  have hd := h.deg
  have h53 := h.le
  have HM64 := Lib.hid (deg_lt64 hd h53)
  have HP2 := Lib.hid (fpr_push2 hd l b)
  have HWP := Lib.hid (winW_push l b)
  have HD := Lib.hid hd
  have hwl := winW_len l
  have hb8 := b.toNat_lt
  obtain ⟨x, hx⟩ : ∃ x, x = winW l := ⟨_, rfl⟩
  obtain ⟨F, hF⟩ : ∃ F, F = fpr m d l := ⟨_, rfl⟩
  have HFL : Hid (F < 2 ^ d) := by unfold Hid; rw [hF]; exact pr_lt hd _
  obtain ⟨N, hN⟩ : ∃ N, N = fpr m d (l ++ [b]) := ⟨_, rfl⟩
  have HN := Lib.hid hN
  rw [← hx, ← hF] at hbl
  rw [← hx] at hwl
  rw [← hF, ← hx, ← hN] at HP2
  rw [← hx] at HWP
  rw [← hN]
  clear hx hF hN h hd
  have c0 : w.cell? ⟨g, 0, none⟩ = some (.int .u64 (m : Nat)) := by rw [hbl.cell, rlc_m]
  have c1 : w.cell? ⟨g, 1, none⟩ = some (.int .u64 (pr m d (2 ^ 128) : Nat)) := by rw [hbl.cell, rlc_gone]
  have c2 : w.cell? ⟨g, 2, none⟩ = some (.int .u8 ((x.headD 0).toNat : Nat)) := by rw [hbl.cell, rlc_old hwl]
  have c18 : w.cell? ⟨g, 18, none⟩ = some (.int .u64 (F : Nat)) := by rw [hbl.cell, rlc_v hwl]
  have f18 := hbl.frozen 18
  obtain ⟨o, ho⟩ : ∃ o, o = (x.headD 0).toNat := ⟨_, rfl⟩
  have ho8 : o < 256 := by rw [ho]; exact (x.headD 0).toNat_lt
  rw [← ho] at c2 HP2
  obtain ⟨G, hG⟩ : ∃ G, G = pr m d (2 ^ 128) := ⟨_, rfl⟩
  have hGl : G < 9007199254740992 := by rw [hG]; exact pr_lt53 HD.out h53 _
  rw [← hG] at c1 HP2
  obtain ⟨P, hP⟩ : ∃ P, P = pr m d (pm G o) := ⟨_, rfl⟩
  have hPl : P < 9007199254740992 := by rw [hP]; exact pr_lt53 HD.out h53 _
  rw [← hP] at HP2
  have HPM : Hid (P = mlV G o m) := by unfold Hid; rw [hP, mlV_eq HD.out HM64.out]
  obtain ⟨S, hS⟩ : ∃ S, S = pr m d (F * 256 + b.toNat) := ⟨_, rfl⟩
  have hSl : S < 9007199254740992 := by rw [hS]; exact pr_lt53 HD.out h53 _
  rw [← hS] at HP2
  have HS := Lib.hid hS
  have HWL := Lib.hid hwl
  have HBL := Lib.hid hbl
  have HE := Lib.hid (mdE_pos HD.out.pos)
  have HBX : Hid (bits BinOp.xor IntKind.u64 (S : Int) (P : Int) = (N : Int)) := by unfold Hid; rw [← HP2.out]; exact u64_xor_nat _ _ (by omega) (by omega)
  clear ho hG hP hS hwl hbl
  go_enter Try.func30, Try.ntmps30
  go_wp2
  go_quiet ((go_at_call 37; exact Calls.quiet_of_same (still_of (mul_any G o m _ (by omega) (by omega) HM64.out))))
  rw [← HPM.out]
  clear c0 c1 c2 c18 f18
  obtain ⟨W1, hW1⟩ : ∃ W, W = w.drewN nq := ⟨_, rfl⟩
  have hbl1 : Bl W1 g (rlc m d x F) 56 := by rw [hW1]; exact HBL.out.drewN nq
  have hg1 : w.grownBy W1 (some g) := by rw [hW1]; exact but_drewN (but_refl w g) nq
  rw [← hW1]
  clear hW1
  have c0 : W1.drew.cell? ⟨g, 0, none⟩ = some (.int .u64 (m : Nat)) := by rw [hbl1.drew.cell, rlc_m]
  have c18 : W1.drew.cell? ⟨g, 18, none⟩ = some (.int .u64 (F : Nat)) := by rw [hbl1.drew.cell, rlc_v HWL.out]
  have f18 := hbl1.drew.frozen 18
  have HB1 := Lib.hid hbl1
  have HG1 := Lib.hid hg1
  clear hbl1 hg1
  go_wp2
  go_still_tail 15, (by kernel_rfl)
  still_call (still_of (shifted_any F b.toNat m d _ HFL.out (by omega) HD.out h53))
  rw [← HS.out]
  repeat still_step
  refine wpStill_nil ?_
  rw [HBX.out]
  go_wp2
  clear c0 c18 f18
  obtain ⟨W2, hW2⟩ : ∃ W, W = (W1.setCell ⟨g, 18, none⟩ (.int .u64 (N : Nat))).drew := ⟨_, rfl⟩
  have hbl2 : Bl W2 g (rlc m d x N) 56 := by
    have h1 := HB1.out.set 18 (.int .u64 (N : Nat))
    rw [rlc_set HWL.out] at h1
    rw [hW2]
    exact h1.drew
  have hg2 : w.grownBy W2 (some g) := by rw [hW2]; exact but_drewN (but_setCell HG1.out 18 _) 1
  rw [← hW2]
  have HG2 := Lib.hid hg2
  clear hW2 hg2
  have hsl : Sl W2.drew (g + 1) (some ⟨g, 3, none⟩) 15 (cb x.tail) := hbl2.drew.sl (rlc_tail HWL.out).symm (by rw [rlc_len HWL.out]; decide)
  obtain ⟨w3, hcp, hbl3, hg3⟩ := run_copy_but (P := Try.prog) W2.drew 25 25 3 5 Try.underlying25 u8_size g 2 16 16 _ _ 15 15 (cb x.tail) hsl _ _ hbl2.drew (by rw [rlc_len HWL.out]; decide) (cb_one _)
  have htl : (cb x.tail).length = 15 := by rw [cb_len, List.length_tail, HWL.out]
  rw [List.take_of_length_le (by omega)] at hbl3
  have f17 := hbl3.frozen 17
  have hbl4 := hbl3.set 17 (.int .u8 (b.toNat : Nat))
  rw [rlc_move HWL.out, ← HWP.out] at hbl4
  have hg4 : w.grownBy (w3.setCell ⟨g, 17, none⟩ (.int .u8 (b.toNat : Nat))) (some g) := but_setCell (but_trans (but_drewN HG2.out 1) hg3) 17 _
  have c17 : w3.cell? ⟨g, 17, none⟩ = some (.int .u8 ((x.getD 15 0).toNat : Nat)) := by rw [hbl3.cell, rlc_17 HWL.out]
  have c18 : (w3.setCell ⟨g, 17, none⟩ (.int .u8 (b.toNat : Nat))).cell? ⟨g, 18, none⟩ = some (.int .u64 (N : Nat)) := by rw [hbl4.cell, rlc_v (winW_len _)]
  have HB4 := Lib.hid hbl4
  have HG4 := Lib.hid hg4
  have HCP := Lib.hid hcp
  clear hbl2 hbl3 hbl4 hg3 hg4 hcp hsl htl
  go_still_tail 8, (by kernel_rfl)
  change wpList _ _ _ _ _ W2.drew
  go_wp2_with fail
  rw [HCP.out]
  go_wp2
  go_ret
  exact ⟨rfl, ⟨by rw [← HN.out]; exact HB4.out, HD.out, h53⟩, HG4.out⟩

/-- A Roll's cells where nothing was pushed. -/
def rl0 (m G : Int) : List Value := [.int .u64 m, .int .u64 G, .int .u8 0, .int .u8 0, .int .u8 0, .int .u8 0, .int .u8 0, .int .u8 0, .int .u8 0, .int .u8 0, .int .u8 0, .int .u8 0, .int .u8 0, .int .u8 0, .int .u8 0, .int .u8 0, .int .u8 0, .int .u8 0, .int .u64 0]
theorem rl0_eq (m G : Int) : rl0 m G = .int .u64 m :: .int .u64 G :: (cb (List.replicate 16 0) ++ [.int .u64 0]) := rfl
theorem rl0_len (m G : Int) : (rl0 m G).length = 19 := rfl
theorem rl0_one (m G : Int) : ∀ c ∈ rl0 m G, c.oneCell' = true := by
  intro c hc
  rw [rl0_eq] at hc
  rw [List.mem_cons, List.mem_cons, List.mem_append] at hc
  rcases hc with rfl | rfl | hc | hc
  · rfl
  · rfl
  · exact cb_one _ c hc
  · rw [List.mem_singleton] at hc; subst hc; rfl

set_option maxHeartbeats 1000000 in
theorem rolreset_any (g m d : Nat) (l : List UInt8) (w : World) (h : Rl w g m d l) :
    Calls Try.prog 31 #[.pointer (some ⟨g, 0, none⟩)] w (RolPost w g m d [] (.tuple #[])) := by
  have hbl := h.bl
  have HD := Lib.hid h.deg
  have h53 := h.le
  have hwl := winW_len l
  obtain ⟨C, hC⟩ : ∃ C, C = rlc m d (winW l) (fpr m d l) := ⟨_, rfl⟩
  have hCl : C.length = 19 := by rw [hC, rlc_len hwl]
  have c0 : w.drew.cell? ⟨g, 0, none⟩ = some (.int .u64 (m : Nat)) := by rw [hbl.drew.cell, rlc_m]
  have c1 : w.drew.cell? ⟨g, 1, none⟩ = some (.int .u64 (pr m d (2 ^ 128) : Nat)) := by rw [hbl.drew.cell, rlc_gone]
  rw [← hC] at hbl
  obtain ⟨G, hG⟩ : ∃ G, G = pr m d (2 ^ 128) := ⟨_, rfl⟩
  have HZ : Hid (rl0 (m : Nat) (G : Nat) = rlc m d (winW []) (fpr m d [])) := by
    unfold Hid
    rw [← rlc_new, hG, rl0_eq]
  rw [← hG] at c1
  have HCL := Lib.hid hCl
  have HB := Lib.hid hbl
  clear hC hG hCl h hbl hwl
  go_enter Try.func31, Try.ntmps31
  go_wp2
  go_still_tail 11, (by kernel_rfl)
  change wpList _ _ _ _ _ w.drew
  refine wpList_store_mid rfl 56 _ _ rfl _ _ (rl0 (m : Nat) (G : Nat)).toArray rfl rfl (Bl.there_ HB.out.drew (by rw [HCL.out, List.size_toArray, rl0_len]; decide)) (by rw [size_roll, List.size_toArray, rl0_len]) (all_oneCell_toArray (rl0_one _ _)) ?_
  obtain ⟨Z, hZ⟩ : ∃ Z, Z = rl0 (m : Nat) (G : Nat) := ⟨_, rfl⟩
  have hZl : Z.length = 19 := by rw [hZ, rl0_len]
  have hb2 := HB.out.drew.over (vs := Z) (by rw [HCL.out, hZl])
  have hg2 : w.grownBy (w.drew.setCells g 0 Z) (some g) := but_setCells (but_drewN (but_refl w g) 1) 0 _
  change wpList _ _ _ _ _ (w.drew.setCells g 0 (rl0 (m : Nat) (G : Nat)))
  rw [← hZ] at HZ
  rw [← hZ]
  obtain ⟨W, hW⟩ : ∃ W, W = w.drew.setCells g 0 Z := ⟨_, rfl⟩
  rw [← hW] at hb2 hg2 ⊢
  rw [HZ.out] at hb2
  clear hW hZ hZl HZ HCL c0 c1
  go_wp2
  exact bodyPost_end (results_none rfl _ _ _) rfl ⟨rfl, ⟨hb2, HD.out, h53⟩, hg2⟩

end Go.Proofs.Ytkopdkamhkmefaa
