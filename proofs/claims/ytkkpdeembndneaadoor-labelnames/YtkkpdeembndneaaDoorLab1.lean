/- The walks of the laws LabelKeys and LabelNames. -/
import Derived.Test.YtkkpdeembndneaaDoorLabV
import Derived.Test.YtkkpdeembndneaaDoorLV
namespace Go.Proofs.YtkkpdeembndneaaDoor
set_option maxRecDepth 100000
open Go.RowKit
set_option linter.unusedVariables false
set_option linter.unusedSimpArgs false

theorem bytes_list (a : ByteArray) : ∃ p : List UInt8, a = ⟨p.toArray⟩ := ⟨a.data.toList, by simp⟩

set_option maxHeartbeats 1000000 in
theorem labelKeys_walk (A0 : Option Addr) (n0 c0 : Nat) (l0 : List UInt8) (a1 : ByteArray) (a2 : Int) (w : World) (hT : Tabs w) (s0 : InBytes w A0 n0 c0 l0) (w1 : a1.size ≤ maxLen) (w2 : (Lit.int .i64 a2).wf = true) :
    Calls Tryd.prog 3 #[.slice A0 n0 c0, .string a1, .int .i64 a2] w fun e w' => e = .returned (.bool true) ∧ Below w.heap.size w w' := by
  obtain ⟨p, rfl⟩ := bytes_list a1
  have hp : p.length ≤ 9223372036854775807 := by
    have h1 : (ByteArray.mk p.toArray).size = p.length := by show p.toArray.size = _; simp
    rw [h1] at w1
    unfold maxLen at w1
    omega
  have HP := Lib.hid hp
  have HT := Lib.hid hT
  have y0 := s0.sl
  have z0 := s0.none_
  have r0 := s0.room
  have q0 := s0.cap
  have HO := Lib.hid (own_any l0 w w.heap.size A0 n0 c0 y0 z0 (by omega) (Nat.le_refl _))
  obtain ⟨R, hR⟩ : ∃ R, R = lkeyR l0 p a2 := ⟨_, rfl⟩
  obtain ⟨E, hE⟩ : ∃ R, R = lkeyE l0 p a2 := ⟨_, rfl⟩
  have HR : Hid (lkeyR l0 p a2 = R) := hR.symm
  have HE : Hid (lkeyE l0 p a2 = E) := hE.symm
  clear s0 hT hp w1 hR hE r0
  go_enter Tryd.func3, Tryd.ntmps3
  go_wp2_with (first
    | (go_at_call 7; refine HO.out.mono ?_; rintro e w3 ⟨A3, c3, rfl, x3⟩; have y3 := y0.nx x3.below; have hb3 := x3.below; have k3 := x3.sl; have kc3 := own_cap x3.own; have kn3 := x3.none_; clear y0 x3)
    | (go_at_call 8; refine (lkey_any l0 p a2 w3 A3 n0 c3 k3 kc3 kn3 (HT.out.next hb3)).mono ?_; rintro e w4 ⟨A4, n4, c4, rfl, x4⟩; rw [HE.out]; rw [HR.out] at x4; have y4 := y3.nx x4.below; have hb4 := next hb3 x4.below; have k4 := k3.nx x4.below; have g4 := x4.sl; clear y3 hb3 k3 kc3 kn3 x4)
    | (go_at_call 9; refine (rlkey_any l0 p a2 w4 A0 n0 c0 y4 z0 HP.out).mono ?_; rintro e w5 ⟨A5, n5, c5, rfl, x5⟩; rw [HE.out]; rw [HR.out] at x5; have hb5 := next hb4 x5.below; have u1 := u8_str (y4.nx x5.below) c0; have u2 := u8_str (k4.nx x5.below) c3; have u3 := u8_str (g4.nx x5.below) c4; have u4 := u8_str x5.sl c5; clear y4 hb4 k4 g4 x5)
    | (go_at_call 10; refine (awake9_any w5 (HT.out.next hb5)).mono ?_; rintro e w6 ⟨rfl, hb6⟩))
  go_ret
  exact ⟨rfl, next hb5 hb6⟩

theorem wpList_exec {P : Program} {ops : Array Oper} {rest : List Oper} {o : Oper} {a : Act} {w : World} {Q : Exit → Act → World → Prop} (hgd : o.guard = none) (v : Value) (hr : (execOp a.eval o).run P w = .ok (.value v) w) (h : wpList P ops Q rest (a.put o.dst v) w) : wpList P ops Q (o :: rest) a w := by
  refine wpList_plain hgd fun K hK => ?_
  unfold Oper.wp
  rw [hr]
  exact hK _ _ h
theorem id_guard : Tryd.prog.eqGuardType Tryd.prog.depth 30 = false := by kernel_rfl
theorem eql_id (s : List UInt8) (w : World) (hs : s.length = 32) : (binOp .eql 30 (.agg (cb s).toArray) (.agg (cb s).toArray)).run Tryd.prog w = .ok (.bool true) w := by
  have := run_eql_bytes (P := Tryd.prog) w 30 5 32 Tryd.underlying30 Tryd.underlying5 (fun w => by kernel_rfl) s s hs hs
  rw [show (s == s) = true by simp] at this
  exact this
theorem exec_eql_id {a : Act} {o : Oper} (w : World) (x y : Operand) (t : TypeId) (ho : o.op = .binOp .eql 30 x y t) (s : List UInt8) (hs : s.length = 32) (hx : a.eval x = .agg (cb s).toArray) (hy : a.eval y = .agg (cb s).toArray) :
    (execOp a.eval o).run Tryd.prog w = .ok (.value (.bool true)) w := by
  unfold execOp
  simp only [ho, hx, hy, Sem.run_bind, run_eqGuard_agg w .eql _ x y _ _ id_guard, Result.andThen_ok, eql_id s w hs]
  rfl

set_option maxHeartbeats 1000000 in
theorem labelNames_walk (A0 : Option Addr) (n0 c0 : Nat) (l0 : List UInt8) (a1 : Int) (A2 : Option Addr) (n2 c2 : Nat) (l2 : List UInt8) (w : World) (hT : Tabs w) (s0 : InBytes w A0 n0 c0 l0) (w1 : (Lit.int .i64 a1).wf = true) (s2 : InBytes w A2 n2 c2 l2) :
    Calls Tryd.prog 4 #[.slice A0 n0 c0, .int .i64 a1, .slice A2 n2 c2] w fun e w' => e = .returned (.bool true) ∧ Below w.heap.size w w' := by
  have HT := Lib.hid hT
  have y0 := s0.sl
  have z0 := s0.none_
  have r0 := s0.room
  have q0 := s0.cap
  have y2 := s2.sl
  have z2 := s2.none_
  have r2 := s2.room
  have q2 := s2.cap
  clear s0 s2 hT
  by_cases hbig : (n2 : Int) ≤ 4000
  · have hbig' : ¬ (4000 : Int) < (n2 : Int) := by omega
    have hn2 : n2 ≤ 4000 := by omega
    have HN2 := Lib.hid hn2
    have HO := Lib.hid (own_any l2 w w.heap.size A2 n2 c2 y2 z2 (by omega) (Nat.le_refl _))
    have HR0 := Lib.hid r0
    obtain ⟨R, hR⟩ : ∃ R, R = lidR l0 a1 l2 := ⟨_, rfl⟩
    obtain ⟨E, hE⟩ : ∃ R, R = lidE l0 a1 := ⟨_, rfl⟩
    have HRL : Hid (R.length = 32) := by unfold Hid; rw [hR]; exact lidR_len _ _ _
    have HR : Hid (lidR l0 a1 l2 = R) := hR.symm
    have HE : Hid (lidE l0 a1 = E) := hE.symm
    clear hR hE r0 r2 hbig hn2
    go_enter Tryd.func4, Tryd.ntmps4
    go_wp2_with (first
      | (go_at_call 7; refine HO.out.mono ?_; rintro e w3 ⟨A3, c3, rfl, x3⟩; have y03 := y0.nx x3.below; have y23 := y2.nx x3.below; have hb3 := x3.below; have k3 := x3.sl; have kc3 := own_cap x3.own; have kn3 := x3.none_; clear y0 y2 x3)
      | (go_at_call 7; refine (own_any l0 w3 w3.heap.size A0 n0 c0 y03 z0 (by have := HR0.out; omega) (Nat.le_refl _)).mono ?_; rintro e w4 ⟨A4, c4, rfl, x4⟩; have y04 := y03.nx x4.below; have y24 := y23.nx x4.below; have hb4 := next hb3 x4.below; have k4 := k3.nx x4.below; have m4 := x4.sl; have mc4 := own_cap x4.own; have mn4 := x4.none_; clear y03 y23 hb3 k3 x4)
      | (go_at_call 11; refine (lid_any l0 l2 a1 w4 A4 A3 n0 c4 n2 c3 m4 mc4 mn4 k4 kc3 kn3 (by have := HN2.out; omega) (HT.out.next hb4)).mono ?_; rintro e w5 ⟨rfl, hb5⟩; rw [HE.out, HR.out]; have y05 := y04.nx hb5; have y25 := y24.nx hb5; have k5 := k4.nx hb5; replace hb5 := next hb4 hb5; clear y04 y24 k4 m4 mc4 mn4 hb4; obtain ⟨p1, p2, p3⟩ := put_new w5 (zeros .u8 32) (cb R) 30 (by rw [cb_len, HRL.out, zeros_len]); have bz := Bl.new w5 (zeros .u8 32) 30; obtain ⟨W6, hW6⟩ : ∃ W, W = (w5.alloc (.cells (zeros .u8 32).toArray 30)).setCells w5.heap.size 0 (cb R) := ⟨_, rfl⟩; rw [← hW6] at p1 p2; have HW6 := Lib.hid hW6; have y06 := y05.nx p2; have y26 := y25.nx p2; have k6 := k5.nx p2; have hb6 := next hb5 p2; clear hW6 y05 y25 k5 hb5 p2 p3)
      | (refine wpList_alloc_zero rfl 30 rfl (zeros .u8 32) zero_id ?_)
      | (refine wpList_store_mid rfl 30 _ _ rfl _ _ (cb R).toArray rfl rfl (bz.there_ (by simp [zeros, cb_len, HRL.out])) (by rw [size_id, List.size_toArray, cb_len, HRL.out]) (all_oneCell_toArray (cb_one _)) ?_; rw [← HW6.out])
      | (go_at_call 12; refine (rlid_any l0 l2 a1 W6 A0 A2 n0 c0 n2 c2 y06 z0 y26 z2 (by have := HN2.out; omega)).mono ?_; rintro e w7 ⟨rfl, hb7⟩; rw [HE.out, HR.out]; have y27 := y26.nx hb7; have k7 := k6.nx hb7; have p17 := p1.next hb7; have hbb7 := next hb6 hb7; clear y06 y26 k6 p1 hb6 hb7 bz; obtain ⟨o1, o2, o3⟩ := put_new w7 (zeros .u8 32) (cb R) 30 (by rw [cb_len, HRL.out, zeros_len]); have by_ := Bl.new w7 (zeros .u8 32) 30; obtain ⟨W8, hW8⟩ : ∃ W, W = (w7.alloc (.cells (zeros .u8 32).toArray 30)).setCells w7.heap.size 0 (cb R) := ⟨_, rfl⟩; rw [← hW8] at o1 o2; have HW8 := Lib.hid hW8; have u1 := u8_str (y27.nx o2) c2; have u2 := u8_str (k7.nx o2) c3; have p18 := p17.next o2; have hb8 := next hbb7 o2; clear hW8 y27 k7 hbb7 o2 o3 p17)
      | (refine wpList_store_mid rfl 30 _ _ rfl _ _ (cb R).toArray rfl rfl (by_.there_ (by simp [zeros, cb_len, HRL.out])) (by rw [size_id, List.size_toArray, cb_len, HRL.out]) (all_oneCell_toArray (cb_one _)) ?_; rw [← HW8.out])
      | (refine wpList_load_mid rfl 30 _ rfl _ _ rfl (cb R) _ p18.whole Tryd.underlying30 rfl (by rw [size_id, cb_len, HRL.out]) ?_)
      | (refine wpList_load_mid rfl 30 _ rfl _ _ rfl (cb R) _ o1.whole Tryd.underlying30 rfl (by rw [size_id, cb_len, HRL.out]) ?_)
      | (refine wpList_exec rfl (.bool true) (exec_eql_id _ _ _ _ rfl R HRL.out rfl rfl) ?_)
      | (go_at_call 10; refine (awake9_any W8 (HT.out.next hb8)).mono ?_; rintro e w9 ⟨rfl, hb9⟩))
    go_ret
    exact ⟨rfl, next hb8 hb9⟩
  · have hbig' : (4000 : Int) < (n2 : Int) := by omega
    clear hbig r0 r2
    go_enter Tryd.func4, Tryd.ntmps4
    go_wp2_with (go_at_call 10; refine (awake9_any w HT.out).mono ?_; rintro e w9 ⟨rfl, hb9⟩)
    go_ret
    exact ⟨rfl, hb9⟩

end Go.Proofs.YtkkpdeembndneaaDoor
