/- The walks of the laws DigestSums, DigestNobody, DigestCopies. -/
import Derived.Test.YtnaanngbnnbpdaaDoorDigV
namespace Go.Proofs.YtnaanngbnnbpdaaDoor
open Go.RowKit
set_option linter.unusedVariables false

set_option maxHeartbeats 600000 in
theorem join_any (a b : List UInt8) (w : World) (B : Nat) (A A' : Option Addr) (n m c c' : Nat) (h : Sl w B A n (cb a)) (h' : Sl w B A' m (cb b)) (hA : A = none → c = 0) (hA' : A' = none → c' = 0) (hn : n ≤ 100000000) (hm : m ≤ 100000000) (hB : B ≤ w.heap.size) :
    Calls Tryd.prog 19 #[.slice A n c, .slice A' m c'] w (RetBytes 5 w (n + m) (a ++ b)) := by
  obtain ⟨i0, hi, hz0, hz1, hz2⟩ := info_parts u8_info
  have h0 := World.ownsRow_lit (base := w.heap.size) (e := 5) (size := 1) w #[] 0 (Nat.le_refl _) (by decide) rfl
  have HL : Hid (cb (a ++ b) = cb a ++ cb b) := cb_append a b
  go_enter Tryd.func19, Tryd.ntmps19
  go_wp2_with (first
    | (at_builtin; refine wpList_append_sl _ rfl _ _ 22 rfl w.heap.size 5 i0 (.int .u8 0) 1 Tryd.underlying22 hi hz0 hz1 hz2 rfl _ 0 [] rfl h0 B A n c (cb a) rfl (h.alloc hB _) hA (cb_one a) (by unfold maxLen; omega) (by omega) (by simp) ?_; intro v1 w1 hown1 hgrow1 hat1; have hb1 : Below w.heap.size w w1 := below_app ((Below.refl w.heap.size w).alloc (Nat.le_refl _) _) (Nat.le_refl _) h0 hgrow1; have h2 := h'.below (hb1.mono hB))
    | (at_builtin; refine wpList_append_sl _ rfl _ _ 22 rfl w.heap.size 5 i0 (.int .u8 0) 1 Tryd.underlying22 hi hz0 hz1 hz2 rfl _ (0 + n) ([] ++ cb a) rfl hown1 B A' m c' (cb b) rfl h2 hA' (cb_one b) (by unfold maxLen; omega) (by omega) hb1.size ?_; intro v2 w2 hown2 hgrow2 hat2; have hb2 : Below w.heap.size w w2 := below_app hb1 (Nat.le_refl _) hown1 hgrow2))
  go_ret
  rw [List.nil_append, ← HL.out] at hown2
  exact retBytes (by omega) rfl hown2 hb2

/-- A slice that reads as cells does so behind the next call. -/
theorem Sl.nx {w w' : World} {A : Option Addr} {n : Nat} {xs : List Value} (h : Sl w w.heap.size A n xs) (hb : Below w.heap.size w w') : Sl w' w'.heap.size A n xs := (h.below hb).up hb.size
theorem Sl.nb {w w' : World} {g : Nat} {A : Option Addr} {n : Nat} {xs : List Value} (h : Sl w w.heap.size A n xs) (hb : w.grownBy w' (some g)) (ho : Off g n A) : Sl w' w'.heap.size A n xs := (sl_off h hb (Nat.le_refl _) ho).up hb.size
/-- One part in a list of its own. -/
theorem list_one {w : World} {A : Option Addr} {c : Nat} {l : List UInt8} (t : TypeId) (hs : Sl w w.heap.size A l.length (cb l)) (hc : l.length ≤ c) (hz : A = none → c = 0) :
    Parts (w.alloc (.cells #[.slice A l.length c] t)) (w.alloc (.cells #[.slice A l.length c] t)).heap.size (some ⟨w.heap.size, 0, none⟩) 1 [l] ∧ Below w.heap.size w (w.alloc (.cells #[.slice A l.length c] t)) := by
  have hb : Below w.heap.size w (w.alloc (.cells #[.slice A l.length c] t)) := (Below.refl _ w).alloc (Nat.le_refl _) _
  exact ⟨parts_one (Bl.newA w #[.slice A l.length c] t) (by simp) (hs.nx hb) hc hz, hb⟩

set_option maxHeartbeats 600000 in
theorem digestSums_walk (A0 : Option Addr) (n0 c0 : Nat) (l0 : List UInt8) (w : World) (hT : Tabs w) (s0 : InBytes w A0 n0 c0 l0) :
    Calls Tryd.prog 3 #[.slice A0 n0 c0] w fun e w' => e = .returned (.bool true) ∧ Below w.heap.size w w' := by
  have r0 := s0.room
  have p0 := s0.cap
  have y0 := s0.sl
  have z0 := s0.none_
  have hl := s0.len
  clear s0
  subst hl
  have HT := Lib.hid hT
  clear hT
  by_cases hbig : 4000 < l0.length
  · go_enter Tryd.func3, Tryd.ntmps3
    go_wp2_with (go_at_call 9; refine (awake2_any _ HT.out).mono ?_; rintro e w' ⟨rfl, hb⟩)
    go_ret
    exact ⟨rfl, hb⟩
  · have HSL := Lib.hid (sha_len l0)
    go_enter Tryd.func3, Tryd.ntmps3
    go_wp2_with fail
    refine (own_any l0 _ _ _ _ _ y0 z0 (by omega) (Nat.le_refl _)).mono ?_
    rintro e w1 ⟨A1, c1, rfl, h1⟩
    have hs1 := h1.sl
    have hb1 := h1.below
    go_wp2_with fail
    obtain ⟨hp, hbp⟩ := list_one 22 hs1 (own_cap h1.own) h1.none_
    have hs2 := hs1.nx hbp
    have hb2 := next hb1 hbp
    refine (of_any [l0] _ _ _ _ _ hp (Nat.le_refl _) (by omega) (HT.out.next hb2) (by simp; omega)).mono ?_
    rintro e w3 ⟨rfl, hb3⟩
    rw [show [l0].flatten = l0 by simp]
    have hs3 := hs2.nx hb3
    have hbw3 := next hb2 hb3
    have y3 := y0.nx hbw3
    clear hp hbp hs1 h1 hb1 hs2 hb2 hb3
    go_wp2_with fail
    refine (rof_any l0 _ _ _ _ _ y3 z0 (Nat.le_refl _) (by omega)).mono ?_
    rintro e w4 ⟨A4, c4, rfl, h4⟩
    have hs4 := hs3.nx h4.below
    have hbw4 := next hbw3 h4.below
    have hr4 := h4.sl
    clear hs3 y3 hbw3 h4
    go_wp2_with fail
    refine (is_any (sha l0) (sha l0) _ _ _ _ _ HSL.out hr4 (Nat.le_refl _)).mono ?_
    rintro e w5 ⟨rfl, hb5⟩
    rw [same_self]
    have hbw5 := next hbw4 hb5
    have q1 := u8_str (hs4.nx hb5) c1
    have q2 := u8_str (y0.nx hbw5) c0
    have hTw := HT.out.next hbw5
    clear hs4 hr4 hbw4 hb5 y0
    go_wp2_with fail
    refine (awake2_any _ hTw).mono ?_
    rintro e w6 ⟨rfl, hb6⟩
    clear q1 q2
    go_wp2
    go_ret
    exact ⟨rfl, next hbw5 hb6⟩

set_option maxHeartbeats 600000 in
theorem digestNobody_walk (A0 : Option Addr) (n0 c0 : Nat) (l0 : List UInt8) (w : World) (hT : Tabs w) (s0 : InBytes w A0 n0 c0 l0) :
    Calls Tryd.prog 8 #[.slice A0 n0 c0] w fun e w' => e = .returned (.bool true) ∧ Below w.heap.size w w' := by
  have r0 := s0.room
  have p0 := s0.cap
  have y0 := s0.sl
  have z0 := s0.none_
  clear s0
  have HT := Lib.hid hT
  clear hT
  have HSL := Lib.hid (sha_len [])
  obtain ⟨S, hS⟩ : ∃ S, S = sha [] := ⟨_, rfl⟩
  rw [← hS] at HSL
  have HS := Lib.hid hS
  clear hS
  go_enter Tryd.func8, Tryd.ntmps8
  go_wp2_with fail
  refine (own_any l0 _ _ _ _ _ y0 z0 (by omega) (Nat.le_refl _)).mono ?_
  rintro e w1 ⟨A1, c1, rfl, h1⟩
  have hb1 := h1.below
  clear h1 y0
  go_wp2_with fail
  refine (add_nil _ _).mono ?_
  rintro e w2 ⟨rfl, rfl⟩
  go_wp2_with fail
  refine (sum_nil _ (HT.out.next hb1)).mono ?_
  rintro e w2 ⟨rfl, hb2⟩
  rw [← HS.out]
  have hbw2 := next hb1 hb2
  clear hb1 hb2
  go_wp2_with fail
  refine (rof_any [] _ 0 none 0 0 Sl.nil_ (fun _ => rfl) (Nat.zero_le _) (by omega)).mono ?_
  rintro e w3 ⟨A3, c3, rfl, h3⟩
  rw [← HS.out] at h3
  have hbw3 := next hbw2 h3.below
  have hr3 := h3.sl
  clear h3 hbw2
  go_wp2_with fail
  refine (is_any S S _ _ _ _ _ HSL.out hr3 (Nat.le_refl _)).mono ?_
  rintro e w4 ⟨rfl, hb4⟩
  rw [same_self]
  have hbw4 := next hbw3 hb4
  clear hbw3 hb4 hr3
  go_wp2_with fail
  refine (copy_nil _).mono ?_
  rintro e w5 ⟨rfl, rfl⟩
  go_wp2_with fail
  refine (awake2_any _ (HT.out.next hbw4)).mono ?_
  rintro e w6 ⟨rfl, hb6⟩
  go_wp2
  go_ret
  exact ⟨rfl, next hbw4 hb6⟩

end Go.Proofs.YtnaanngbnnbpdaaDoor

