/- The walks of the laws WordFills and WordBack. -/
import Derived.Test.YtppdegljifnfkaaWordC
namespace Go.Proofs.Ytppdegljifnfkaa
open Go.RowKit
set_option linter.unusedVariables false

theorem byte_up (b : UInt8) : Value.int .u8 (((b.toNat : Int) + 1) % 256) = bc (b + 1) := by
  unfold bc
  rw [UInt8.toNat_add]
  have : (1 : UInt8).toNat = 1 := rfl
  rw [this]
  congr 1

set_option maxHeartbeats 1000000 in
theorem wordFills_walk (A0 : Option Addr) (n0 c0 : Nat) (l0 : List UInt8) (a1 : Int) (w : World) (s0 : InBytes w A0 n0 c0 l0) (w1 : (Lit.int .i64 a1).wf = true) :
    Calls Try.prog 8 #[.slice A0 n0 c0, .int .i64 a1] w fun e w' => e = .returned (.bool true) ∧ Below w.heap.size w w' := by
  have r0 := s0.room
  have p0 := s0.cap
  have y0 := s0.sl
  have z0 := s0.none_
  clear s0 w1
  go_enter Try.func8, Try.ntmps8
  go_wp2_with fail
  refine (own_any l0 _ _ _ _ _ y0 z0 (by omega) (Nat.le_refl _)).mono ?_
  rintro e w1 ⟨A1, c1, rfl, h1⟩
  go_wp2_with fail
  refine (fill_any l0 a1 _ _ _ _ _ h1.sl (by omega) (Nat.le_refl _)).mono ?_
  rintro e w2 ⟨A2, n2, c2, rfl, h2⟩
  have b2 := next h1.below h2.below
  go_wp2_with fail
  refine (rfill_any l0 a1 _ _ _ _ _ (y0.below b2) z0 (by omega) b2.size).mono ?_
  rintro e w3 ⟨A3, n3, c3, rfl, h3⟩
  have b13 : Below w1.heap.size w1 w3 := next h2.below h3.below
  have hg3 : w3.ownsRow w1.heap.size 5 1 (.slice A2 n2 c2) n2 (cb (fillL l0 a1)) := own_below h2.own h3.below
  have q1 := u8_str (Sl.own hg3) c2
  have q2 := u8_str h3.sl c3
  have hn2 : n2 ≤ 140737488355328 := by
    have := h2.own.1
    rw [cb_len] at this
    have := fillL_le l0 a1
    have := y0.1
    rw [cb_len] at this
    omega
  have x1 := h1.sl
  have hb1 := h1.below
  clear h1 h2 h3 b2
  go_wp2
  go_loopw [37] (fun i wr => ∃ (k : Nat) (l : List UInt8), k ≤ n2 ∧ i = .int .i64 k ∧ wr.ownsRow w1.heap.size 5 1 (.slice A2 n2 c2) n2 (cb l) ∧ Below w1.heap.size w1 wr) (fun i _ => n2 - (intOf i).toNat)
  case atStart => exact ⟨0, _, by omega, rfl, hg3, b13⟩
  case round =>
    obtain ⟨k, l, hk, rfl, hown, hb⟩ := hrel
    by_cases hlt : k < n2
    · obtain ⟨g, cap, hv, hgb, _⟩ := hown.form (by omega)
      injection hv with hv1 hv2 hv3
      subst hv1
      have hl : l.length = n2 := by have := hown.1; rw [cb_len] at this; omega
      have hc := hown.cellAt k (by omega)
      rw [cb_at (by omega)] at hc
      have hf := hown.frozenAt k
      have HT := Lib.hid (hown.stored k (bc (l[k] + 1))).1
      have HB := Lib.hid (byte_up l[k])
      have hbt : l[k].toNat < 256 := l[k].toNat_lt
      clear hg3 q1 q2 b13 hown
      go_wp2
      go_roundw
      case rel => exact ⟨k + 1, l.set k (l[k] + 1), by omega, by go_num, by rw [HB.out, cb_set]; exact HT.out, hb.setCell (by exact hgb) _⟩
      case measure => simp [intOf]; omega
    · have q3 := u8_str (x1.below hb) c1
      have q4 := u8_str (y0.below (next hb1 hb)) c0
      clear hg3 q1 q2 b13 hown
      go_wp2_with (go_at_call 15; refine (awake_any _).mono ?_; rintro e w7 ⟨rfl, h7⟩)
      go_ret
      exact ⟨rfl, next (next hb1 hb) h7⟩

theorem turnK_one : turnK 1 = 1 := by decide
theorem turn_back (x : Nat) (n : Int) (hx : x < 4294967296) : rotN (rotN x (turnK n)) (turnK (wrap64 (-n))) = x := by
  have hn : turnK (wrap64 (-n)) = (32 - turnK n) % 32 := by
    unfold turnK wrap64
    omega
  have hk := turnK_lt n
  rw [hn]
  by_cases h0 : turnK n = 0
  · rw [h0, rotN_zero _ hx, Nat.sub_zero, Nat.mod_self, rotN_zero _ hx]
  · rw [Nat.mod_eq_of_lt (by omega), rotN_add x _ _ hx (by omega), show turnK n + (32 - turnK n) = 32 by omega, rotN_all]

set_option maxHeartbeats 1000000 in
theorem wordBack_walk (a0 a1 a2 : Int) (w : World) (w0 : (Lit.int .u32 a0).wf = true) (w1 : (Lit.int .u64 a1).wf = true) (w2 : (Lit.int .i64 a2).wf = true) :
    Calls Try.prog 9 #[.int .u32 a0, .int .u64 a1, .int .i64 a2] w fun e w' => e = .returned (.bool true) ∧ Below w.heap.size w w' := by
  obtain ⟨b0, b1⟩ := bounds_u32 w0
  obtain ⟨b2, b3⟩ := bounds_u64 w1
  clear w0 w1 w2
  obtain ⟨x, rfl⟩ := Int.eq_ofNat_of_zero_le b0
  obtain ⟨y, rfl⟩ := Int.eq_ofNat_of_zero_le b2
  have hx : x < 4294967296 := by omega
  have HY : Hid (y < 18446744073709551616) := (by omega : y < 18446744073709551616)
  clear b0 b1 b2 b3
  go_enter Try.func9, Try.ntmps9
  go_wp2_with fail
  refine (store_any x false _).mono ?_
  rintro e w1 ⟨A1, c1, rfl, h1⟩
  go_wp2_with fail
  refine (load_any _ false _ _ _ _ _ h1.sl (by decide)).mono ?_
  rintro e w2 ⟨rfl, d2⟩
  rw [load_stored x false hx, load_storedE]
  have b2 : Below w.heap.size w w2 := h1.below.trans (d2.below _)
  clear h1 d2
  go_wp2_with fail
  refine (store_any x true _).mono ?_
  rintro e w3 ⟨A3, c3, rfl, h3⟩
  go_wp2_with fail
  refine (load_any _ true _ _ _ _ _ h3.sl (by decide)).mono ?_
  rintro e w4 ⟨rfl, d4⟩
  rw [load_stored x true hx, load_storedE]
  have b4 : Below w.heap.size w w4 := (next b2 h3.below).trans (d4.below _)
  clear h3 d4 b2
  go_wp2_with fail
  refine (tell_any y _).mono ?_
  rintro e w5 ⟨A5, c5, rfl, h5⟩
  go_wp2_with fail
  refine (long_any _ _ _ _ _ _ h5.sl (by decide)).mono ?_
  rintro e w6 ⟨rfl, rfl⟩
  rw [long_told y HY.out, long_toldE]
  have b5 := next b4 h5.below
  clear b4 h5
  go_wp2
  go_loop [13, 58] (fun t i => ∃ k : Nat, k ≤ 32 ∧ i = .int .i64 k ∧ t = .int .u32 (rotN x k : Nat)) (fun _ i => 32 - (intOf i).toNat)
  case atStart => exact ⟨0, by omega, rfl, by rw [rotN_zero x hx]⟩
  case round =>
    obtain ⟨k, hk, rfl, rfl⟩ := hrel
    have hb := rotN_lt x k hx hk
    by_cases hlt : k < 32
    · have HS := Lib.hid (rotN_add x k 1 hx (by omega))
      go_wp2_with (go_at_call 20; refine (turn_any _ _ _ hb).mono ?_; rintro e w' ⟨rfl, rfl⟩; rw [turnK_one])
      go_round
      case rel => exact ⟨k + 1, by omega, by go_num, by rw [HS.out]⟩
      case measure => simp [intOf]; omega
    · have hrot : rotN x k = x := by rw [show k = 32 by omega, rotN_all]
      have hlt2 := rotN_lt x (turnK a2) hx (by have := turnK_lt a2; omega)
      go_wp2_with fail
      refine (turn_any x a2 _ hx).mono ?_
      rintro e w' ⟨rfl, rfl⟩
      go_wp2_with fail
      refine (turn_any (rotN x (turnK a2)) (wrap64 (-a2)) _ hlt2).mono ?_
      rintro e w' ⟨rfl, rfl⟩
      rw [turn_back x a2 hx]
      go_wp2_with (go_at_call 15; refine (awake_any _).mono ?_; rintro e w7 ⟨rfl, h7⟩)
      go_ret
      exact ⟨rfl, next b5 h7⟩
end Go.Proofs.Ytppdegljifnfkaa
