/- The walk of the law MacNobody. -/
import Derived.Test.YtnhpedgolgdoiaaDoorMac1
namespace Go.Proofs.YtnhpedgolgdoiaaDoor
open Go.RowKit
set_option linter.unusedVariables false
set_option linter.unusedSimpArgs false

theorem Bl.sum {w : World} {g : Nat} {l : List UInt8} {t : TypeId} (h : Bl w g (cb l) t) (k : Nat) : w.rangeAt g (k * 32) (cb ((l.drop (32 * k)).take 32)) := by
  have := h.range (k * 32) 32
  rw [← cb_slice, Nat.mul_comm k 32] at this
  rw [Nat.mul_comm k 32]
  exact this

/-- A load of many cells that stands behind a guard. -/
theorem wpList_load_want {P : Program} {ops : Array Oper} {rest : List Oper} {o : Oper} {a : Act} {w : World} {Q : Exit → Act → World → Prop} (hw : Region.wanted o (yielded ops a.tmps) = true) (ty : TypeId) (x : Operand) (ho : o.op = .load ty x)
    (b f : Nat) (hx : a.eval x = .pointer (some ⟨b, f, none⟩)) (cs : List Value) (d : TypeDesc) (hc : w.rangeAt b f cs)
    (hu : P.underlying ty = some d) (hd : d.isRow = true) (hi : (P.info? ty).map (·.size) = some cs.length)
    (h : wpList P ops Q rest (a.put o.dst (.agg cs.toArray)) w) : wpList P ops Q (o :: rest) a w := by
  unfold wpList
  rw [if_pos hw]
  exact .inl (wp_load_mid ty x ho b f hx cs d hc hu hd hi h)

set_option maxRecDepth 100000 in
set_option maxHeartbeats 1000000 in
theorem macNobody_walk (A0 : Option Addr) (n0 c0 : Nat) (l0 : List UInt8) (w : World) (hT : Tabs w) (s0 : InBytes w A0 n0 c0 l0) :
    Calls Tryd.prog 8 #[.slice A0 n0 c0] w fun e w' => e = .returned (.bool true) ∧ Below w.heap.size w w' := by
  have y0 := s0.sl
  have z0 := s0.none_
  have e0 := s0.len
  have r0 := s0.room
  have p0 := s0.cap
  clear s0
  subst e0
  have HT := Lib.hid hT
  clear hT
  by_cases hbig : 4000 < l0.length
  · go_enter Tryd.func8, Tryd.ntmps8
    go_wp2_with (go_at_call 9; refine (awake3_any _ HT.out).mono ?_; rintro e w' ⟨rfl, hb⟩)
    go_ret
    exact ⟨rfl, hb⟩
  · have HM := Lib.hid (hmac_len [] l0)
    obtain ⟨M, hM⟩ : ∃ M, M = hmac [] l0 := ⟨_, rfl⟩
    rw [← hM] at HM
    have HMM := Lib.hid hM
    clear hM
    have hkp : ∀ w', Kp w' none [] := fun _ => .inr ⟨rfl, rfl⟩
    have HKP := Lib.hid hkp
    clear hkp
    go_enter Tryd.func8, Tryd.ntmps8
    go_wp2_with fail
    refine (rtag_any [] l0 _ w.heap.size _ _ _ _ _ _ Sl.nil_ (fun _ => rfl) (by omega) y0 z0 (by omega) (Nat.le_refl _)).mono ?_
    rintro e w1 ⟨X1, d1, rfl, h1⟩
    rw [← HMM.out] at h1
    have hb1 := h1.below
    have x1 := h1.sl
    have f1 := h1.none_
    clear h1
    go_wp2_with fail
    refine (own_any l0 _ _ _ _ _ (y0.below hb1) z0 (by omega) hb1.size).mono ?_
    rintro e w2 ⟨X2, d2, rfl, h2⟩
    have hb2 := next hb1 h2.below
    replace x1 := x1.nx h2.below
    go_wp2_with fail
    obtain ⟨hp, hbp⟩ := list_one 22 h2.sl (own_cap h2.own) h2.none_
    have hb3 := next hb2 hbp
    replace x1 := x1.nx hbp
    clear hb1 hb2 h2 hbp
    refine (many_any none [] [l0] _ _ _ _ _ (HKP.out _) hp (Nat.le_refl _) (by omega) (HT.out.next hb3) (by simp; omega)).mono ?_
    rintro e w4 ⟨gs, rfl, hgs, hbs, hbp⟩
    rw [show ([l0].map (hmac [])).flatten = hmac [] l0 by simp, ← HMM.out] at hbs
    have hb4 := next hb3 hbp
    replace x1 := x1.nx hbp
    clear hb3 hbp hp hgs
    go_wp2_with fail
    refine (own_any l0 _ _ _ _ _ (y0.below hb4) z0 (by omega) hb4.size).mono ?_
    rintro e w5 ⟨X5, d5, rfl, h5⟩
    have hb5 := next hb4 h5.below
    replace x1 := x1.nx h5.below
    replace hbs := hbs.next h5.below
    go_wp2_with fail
    obtain ⟨hp, hbp⟩ := list_one 22 h5.sl (own_cap h5.own) h5.none_
    have hb6 := next hb5 hbp
    replace x1 := x1.nx hbp
    replace hbs := hbs.next hbp
    clear hb4 hb5 h5 hbp
    refine (kptag_any none [] [l0] _ _ _ _ _ (HKP.out _) hp (Nat.le_refl _) (by omega) (HT.out.next hb6) (by simp; omega)).mono ?_
    rintro e w7 ⟨rfl, hbp⟩
    rw [show [l0].flatten = l0 by simp, ← HMM.out]
    have hb7 := next hb6 hbp
    replace x1 := x1.nx hbp
    replace hbs := hbs.next hbp
    clear hb6 hbp hp
    go_wp2_with fail
    refine (is_any M M _ _ _ _ _ HM.out x1 (Nat.le_refl _)).mono ?_
    rintro e w8 ⟨rfl, hbp⟩
    rw [same_self]
    have hb8 := next hb7 hbp
    replace x1 := x1.nx hbp
    replace hbs := hbs.next hbp
    clear hbp hb7
    go_wp2_with fail
    refine (own_any M _ _ _ _ _ x1 f1 (by omega) (Nat.le_refl _)).mono ?_
    rintro e w9 ⟨X9, d9, rfl, h9⟩
    have hb9 := next hb8 h9.below
    have x9 := h9.sl
    replace x1 := x1.nx h9.below
    replace hbs := hbs.next h9.below
    clear h9 hb8
    go_wp2_with fail
    refine (own_any l0 _ _ _ _ _ (y0.below hb9) z0 (by omega) hb9.size).mono ?_
    rintro e w10 ⟨X10, d10, rfl, h10⟩
    have hb10 := next hb9 h10.below
    replace x1 := x1.nx h10.below
    replace x9 := x9.nx h10.below
    replace hbs := hbs.next h10.below
    go_wp2_with fail
    obtain ⟨hp, hbp⟩ := list_one 22 h10.sl (own_cap h10.own) h10.none_
    have hb11 := next hb10 hbp
    replace x1 := x1.nx hbp
    replace x9 := x9.nx hbp
    replace hbs := hbs.next hbp
    clear hb9 hb10 h10 hbp
    refine (holds_any none [] M [l0] _ _ _ _ _ _ _ _ _ (HKP.out _) x9 (Nat.le_refl _) (by unfold maxLen; omega) hp (Nat.le_refl _) (by omega) (HT.out.next hb11) (by simp; omega)).mono ?_
    rintro e w12 ⟨rfl, hbp⟩
    rw [show [l0].flatten = l0 by simp, ← HMM.out, same_self]
    have hb12 := next hb11 hbp
    replace x1 := x1.nx hbp
    replace hbs := hbs.next hbp
    have hrg := hbs.whole
    clear hb11 hbp hp x9 hbs
    go_wp2_with (refine wpList_load_want (by rfl) 28 _ rfl _ _ rfl (cb M) _ hrg Tryd.underlying28 rfl (by rw [size_sum, cb_len, HM.out]) ?_)
    refine (is_any M M _ _ _ _ _ HM.out x1 (Nat.le_refl _)).mono ?_
    rintro e w13 ⟨rfl, hbp⟩
    rw [same_self]
    have hb13 := next hb12 hbp
    clear hbp hb12 x1 hrg
    go_wp2_with fail
    refine (awake3_any _ (HT.out.next hb13)).mono ?_
    rintro e w14 ⟨rfl, hb14⟩
    go_wp2
    go_ret
    exact ⟨rfl, next hb13 hb14⟩

end Go.Proofs.YtnhpedgolgdoiaaDoor

