/- initialState, fit of package cipher. -/
import Derived.Test.YtnhpamfmbledmaaDoorChaC
namespace Go.Proofs.YtnhpamfmbledmaaDoor
open Go.RowKit
set_option linter.unusedVariables false
set_option linter.unusedSimpArgs false

theorem built_16 : Tryd.prog.built 47 [(0, .int .u32 1634760805), (1, .int .u32 857760878), (2, .int .u32 2036477234), (3, .int .u32 1797285236)] = some (us (cst ++ List.replicate 12 0)).toArray := by kernel_rfl

theorem us_splice (x y : List Nat) (o : Nat) : splice (us x) o (us y) = us (splice x o y) := by simp [splice, us]
theorem st_start (K N : List Nat) (hK : K.length = 8) (hN : N.length = 3) : splice (splice (cst ++ List.replicate 12 0) 4 K) 13 N = cst ++ (K ++ (0 :: N)) := by
  match K, hK, N, hN with
  | [a, b, c, d, e, f, g, h], _, [x, y, z], _ => rfl

theorem init_start (w : World) (Z C : List Value) (T : TypeId) (hl : C.length = Z.length) :
    Bl (((w.alloc (.cells Z.toArray T)).alloc (.cells Z.toArray T)).setCells (w.heap.size + 1) 0 C) w.heap.size Z T ∧
    Bl (((w.alloc (.cells Z.toArray T)).alloc (.cells Z.toArray T)).setCells (w.heap.size + 1) 0 C) (w.heap.size + 1) C T ∧
    (((w.alloc (.cells Z.toArray T)).alloc (.cells Z.toArray T)).setCells (w.heap.size + 1) 0 C).heap.size = w.heap.size + 2 ∧
    Below w.heap.size w (((w.alloc (.cells Z.toArray T)).alloc (.cells Z.toArray T)).setCells (w.heap.size + 1) 0 C) := sum_start w Z T C Z T hl

set_option maxHeartbeats 600000 in
theorem init_any (key nonce : List UInt8) (A0 A1 : Option Addr) (c0 c1 : Nat) (w : World) (s : List Nat) (h0 : Sl w w.heap.size A0 32 (cb key)) (h1 : Sl w w.heap.size A1 12 (cb nonce)) (k0 : 32 ≤ c0) (k1 : 12 ≤ c1) (z0 : A0 = none → c0 = 0) (z1 : A1 = none → c1 = 0) (hs : s = stOf key nonce 0) :
    Calls Tryd.prog 19 #[.slice A0 32 c0, .slice A1 12 c1] w fun e w' => e = .returned (.agg (us s).toArray) ∧ Below w.heap.size w w' := by
  have HS := Lib.hid hs
  clear hs
  obtain ⟨C, hC⟩ : ∃ C, C = us (cst ++ List.replicate 12 0) := ⟨_, rfl⟩
  have hCl : C.length = 16 := by rw [hC]; rfl
  have hCo : ∀ v ∈ C, v.oneCell' = true := by rw [hC]; exact us_one _
  have HBU := built_16
  rw [← hC] at HBU
  have HC := Lib.hid hC
  have HCL := Lib.hid hCl
  have HCO := Lib.hid hCo
  clear hC hCl hCo
  obtain ⟨b0, b1, hsz, hb0⟩ := init_start w (zeros .u32 16) C 47 (by rw [HCL.out, zeros_len])
  obtain ⟨W1, hW1⟩ : ∃ W, W = ((w.alloc (.cells (zeros .u32 16).toArray 47)).alloc (.cells (zeros .u32 16).toArray 47)).setCells (w.heap.size + 1) 0 C := ⟨_, rfl⟩
  rw [← hW1] at b0 b1 hsz hb0
  have HW1 : Hid (W1 = ((w.alloc (.cells (zeros .u32 16).toArray 47)).alloc (.cells (zeros .u32 16).toArray 47)).setCells (w.alloc (.cells (zeros .u32 16).toArray 47)).heap.size 0 C) := by unfold Hid; rw [hW1, alloc_size]
  have HSZ := Lib.hid hsz
  have HBU' := Lib.hid HBU
  clear hW1 hsz HBU
  have hw := w.heap.size
  go_enter Tryd.func19, Tryd.ntmps19
  go_wp2_with (first
    | (refine wpList_build_to rfl 47 _ rfl C HBU'.out ?_)
    | (refine wpList_alloc_zero rfl 47 rfl (zeros .u32 16) zero_16 ?_)
    | (refine wpList_store_mid rfl 47 _ _ rfl _ _ C.toArray rfl rfl (Bl.there_ (Bl.new _ (zeros .u32 16) 47) (by simp [HCL.out, zeros_len])) (by rw [size_16, List.size_toArray, HCL.out]) (all_oneCell_toArray HCO.out) ?_; change wpList _ _ _ _ _ (World.setCells ((w.alloc (.cells (zeros .u32 16).toArray 47)).alloc (.cells (zeros .u32 16).toArray 47)) (w.alloc (.cells (zeros .u32 16).toArray 47)).heap.size 0 C); rw [← HW1.out]))
  refine (loadw_any (w.heap.size + 1) 4 8 12 C 47 key A0 32 c0 w.heap.size W1 b1 (by rw [HCL.out]; omega) (h0.below hb0) (by omega) k0 z0 rfl (by omega)).mono ?_
  rintro e w2 ⟨rfl, b2, g2⟩
  have b02 := b0.grown g2 (by simp)
  have hb2 := below_but hb0 g2 (by rw [HSZ.out]; omega) (by omega)
  have hsz2 := g2.size
  go_wp2_with fail
  refine (loadw_any (w.heap.size + 1) 13 3 3 _ 47 nonce A1 12 c1 w.heap.size w2 b2 (by rw [splice_len _ _ _ (by rw [us_len, wdsL_len, HCL.out]; omega), HCL.out]; omega) (h1.below hb2) (by omega) k1 z1 rfl (by omega)).mono ?_
  rintro e w3 ⟨rfl, b3, g3⟩
  have b03 := b02.grown g3 (by simp)
  have hb3 := below_but hb2 g3 (by have := HSZ.out; omega) (by omega)
  have HE : Hid (splice (splice C 4 (us (wdsL key 8))) 13 (us (wdsL nonce 3)) = us s) := by
    unfold Hid
    rw [HC.out, us_splice, us_splice, st_start _ _ (wdsL_len _ _) (wdsL_len _ _), HS.out]; rfl
  rw [HE.out] at b3
  have HSL : Hid (s.length = 16) := by unfold Hid; rw [HS.out, stOf_len]
  have HB := Lib.hid b3
  clear b0 b1 b2 b02 b3 hb0 hb2 g2 g3
  go_wp2_with (first
    | (refine wpList_load_mid rfl 47 _ rfl _ _ rfl (us s) _ HB.out.whole Tryd.underlying47 rfl (by rw [size_16, us_len, HSL.out]) ?_)
    | (refine wpList_store_mid rfl 47 _ _ rfl _ _ (us s).toArray rfl rfl (b03.there_ (by simp [zeros, us_len, HSL.out])) (by rw [size_16, List.size_toArray, us_len, HSL.out]) (all_oneCell_toArray (us_one _)) ?_))
  have hfin := b03.over (vs := us s) (by rw [us_len, HSL.out, zeros_len])
  exact ret_row Tryd.results19 rfl hfin Tryd.underlying47 rfl (by rw [size_16, us_len, HSL.out]) rfl ⟨rfl, below_setCells hb3 (Nat.le_refl _) _ _⟩

theorem fit_any (n m c d : Nat) (A B : Option Addr) (w : World) :
    Calls Tryd.prog 17 #[.slice A n c, .slice B m d] w fun e w' => e = .returned (.bool (n == 32 && m == 12)) ∧ w = w' := by
  by_cases h1 : n = 32
  · have q1 : ((n : Int) == 32) = true := by simp; omega
    by_cases h2 : m = 12
    · have q2 : ((m : Int) == 12) = true := by simp; omega
      have H : Hid ((n == 32 && m == 12) = true) := by unfold Hid; simp [h1, h2]
      clear h1 h2
      go_enter Tryd.func17, Tryd.ntmps17
      go_wp2
      go_ret
      exact ⟨ret_bool (by rw [H.out]), rfl⟩
    · have q2 : ((m : Int) == 12) = false := by simp; omega
      have H : Hid ((n == 32 && m == 12) = false) := by unfold Hid; simp [h1, h2]
      clear h1 h2
      go_enter Tryd.func17, Tryd.ntmps17
      go_wp2
      go_ret
      exact ⟨ret_bool (by rw [H.out]), rfl⟩
  · have q1 : ((n : Int) == 32) = false := by simp; omega
    have H : Hid ((n == 32 && m == 12) = false) := by unfold Hid; simp [h1]
    clear h1
    go_enter Tryd.func17, Tryd.ntmps17
    go_wp2
    go_ret
    exact ⟨ret_bool (by rw [H.out]), rfl⟩

theorem right_any (n m c d : Nat) (A B : Option Addr) (w : World) :
    Calls Tryd.prog 10 #[.slice A n c, .slice B m d] w fun e w' => e = .returned (.bool (n == 32 && m == 12)) ∧ w = w' := by
  by_cases h1 : n = 32
  · have q1 : ((n : Int) == 32) = true := by simp; omega
    by_cases h2 : m = 12
    · have q2 : ((m : Int) == 12) = true := by simp; omega
      have H : Hid ((n == 32 && m == 12) = true) := by unfold Hid; simp [h1, h2]
      clear h1 h2
      go_enter Tryd.func10, Tryd.ntmps10
      go_wp2
      go_ret
      exact ⟨ret_bool (by rw [H.out]), rfl⟩
    · have q2 : ((m : Int) == 12) = false := by simp; omega
      have H : Hid ((n == 32 && m == 12) = false) := by unfold Hid; simp [h1, h2]
      clear h1 h2
      go_enter Tryd.func10, Tryd.ntmps10
      go_wp2
      go_ret
      exact ⟨ret_bool (by rw [H.out]), rfl⟩
  · have q1 : ((n : Int) == 32) = false := by simp; omega
    have H : Hid ((n == 32 && m == 12) = false) := by unfold Hid; simp [h1]
    clear h1
    go_enter Tryd.func10, Tryd.ntmps10
    go_wp2
    go_ret
    exact ⟨ret_bool (by rw [H.out]), rfl⟩

end Go.Proofs.YtnhpamfmbledmaaDoor
