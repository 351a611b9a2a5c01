/- The walk of the law MacOne. -/
import Derived.Test.YtnhpedgolgdoiaaDoorMac3
namespace Go.Proofs.YtnhpedgolgdoiaaDoor
open Go.RowKit
set_option linter.unusedVariables false
set_option linter.unusedSimpArgs false

/-- A byte is another one just if something is exclusive-ored. -/
theorem same_set (M : List UInt8) (k : Nat) (y : UInt8) (h : k < M.length) : sameB (M.set k (M[k] ^^^ y)) M = (((y.toNat : Nat) : Int) == 0) := by
  rw [Bool.eq_iff_iff]
  simp only [sameB, decide_eq_true_eq, beq_iff_eq]
  constructor
  · intro e
    have h1 : (M.set k (M[k] ^^^ y))[k]? = M[k]? := by rw [e]
    rw [List.getElem?_set_self h, List.getElem?_eq_getElem h] at h1
    injection h1 with h1
    have h2 : y = 0 := by
      have h3 : M[k] ^^^ (M[k] ^^^ y) = M[k] ^^^ M[k] := by rw [h1]
      rw [← UInt8.xor_assoc, UInt8.xor_self, UInt8.zero_xor] at h3
      exact h3
    rw [h2]; rfl
  · intro e
    have h2 : y = 0 := UInt8.toNat_inj.1 (by have : y.toNat = 0 := by omega
                                             rw [this]; rfl)
    rw [h2, UInt8.xor_zero, List.set_getElem_self]
theorem same_cut (M : List UInt8) (h : M.length = 32) : sameB (M.take 31) M = false := by
  unfold sameB
  rw [decide_eq_false_iff_not]
  intro e
  have : (M.take 31).length = M.length := by rw [e]
  rw [List.length_take, h] at this
  omega

set_option maxRecDepth 100000 in
set_option maxHeartbeats 1000000 in
theorem macOne_walk (A0 : Option Addr) (n0 c0 : Nat) (l0 : List UInt8) (A1 : Option Addr) (n1 c1 : Nat) (l1 : List UInt8) (a2 a3 : Int) (w : World) (hT : Tabs w)
    (s0 : InBytes w A0 n0 c0 l0) (s1 : InBytes w A1 n1 c1 l1) (w2 : (Lit.int .u8 a2).wf = true) (w3 : (Lit.int .u8 a3).wf = true) :
    Calls Tryd.prog 7 #[.slice A0 n0 c0, .slice A1 n1 c1, .int .u8 a2, .int .u8 a3] w fun e w' => e = .returned (.bool true) ∧ Below w.heap.size w w' := by
  have y0 := s0.sl
  have z0 := s0.none_
  have e0 := s0.len
  have y1 := s1.sl
  have z1 := s1.none_
  have e1 := s1.len
  have r0 := s0.room
  have r1 := s1.room
  have p0 := s0.cap
  have p1 := s1.cap
  clear s0 s1
  subst e0; subst e1
  have v2 := bounds_u8 w2
  have v3 := bounds_u8 w3
  obtain ⟨at2, rfl⟩ : ∃ n : Nat, a2 = (n : Int) := ⟨a2.toNat, by omega⟩
  obtain ⟨y, rfl⟩ : ∃ y : UInt8, a3 = ((y.toNat : Nat) : Int) := ⟨UInt8.ofNat a3.toNat, by simp only [UInt8.toNat_ofNat']; omega⟩
  clear w2 w3
  have HT := Lib.hid hT
  clear hT
  by_cases hbig : l0.length ≤ 4000 ∧ l1.length ≤ 4000
  · obtain ⟨b0, b1⟩ := hbig
    have HM := Lib.hid (hmac_len l0 l1)
    obtain ⟨M, hM⟩ : ∃ M, M = hmac l0 l1 := ⟨_, rfl⟩
    rw [← hM] at HM
    have HMM := Lib.hid hM
    clear hM
    have HCUT := Lib.hid (same_cut M HM.out)
    have q0 : decide (4000 < (l0.length : Int)) = false := by simp; omega
    have q1 : decide (4000 < (l1.length : Int)) = false := by simp; omega
    go_enter Tryd.func7, Tryd.ntmps7
    go_wp2_with fail
    refine (own_any l0 _ _ _ _ _ y0 z0 (by omega) (Nat.le_refl _)).mono ?_
    rintro e w1 ⟨X1, d1, rfl, h1⟩
    have hb1 := h1.below
    go_wp2_with fail
    refine (mnew_any l0 _ _ _ _ _ h1.sl (own_cap h1.own) h1.none_ (Nat.le_refl _) (HT.out.next hb1) (by omega)).mono ?_
    rintro e w2 ⟨gk, rfl, hgk, hky, hbp⟩
    have hb2 := next hb1 hbp
    have hgk' : w.heap.size ≤ gk := Nat.le_trans hb1.size hgk
    clear h1 hb1 hbp hgk y0
    go_wp2_with fail
    refine (own_any l1 _ _ _ _ _ (y1.below hb2) z1 (by omega) hb2.size).mono ?_
    rintro e w3 ⟨X3, d3, rfl, h3⟩
    have hb3 := next hb2 h3.below
    replace hky := hky.next h3.below
    go_wp2_with fail
    obtain ⟨hp, hbp⟩ := list_one 22 h3.sl (own_cap h3.own) h3.none_
    replace hb3 := next hb3 hbp
    replace hky := hky.next hbp
    clear h3 hbp hb2
    refine (ktag_any gk l0 [l1] _ _ _ _ _ hky hp (Nat.le_refl _) (by omega) (HT.out.next hb3) (by simp; omega)).mono ?_
    rintro e w4 ⟨rfl, hbp⟩
    rw [show [l1].flatten = l1 by simp, ← HMM.out]
    have hb4 := next hb3 hbp
    replace hky := hky.next hbp
    clear hp hbp hb3
    have hn4 := (Bl.new w4 (zeros .u8 32) 28)
    obtain ⟨W5, hW5⟩ : ∃ W, W = (w4.alloc (.cells (zeros .u8 32).toArray 28)).setCells w4.heap.size 0 (cb M) := ⟨_, rfl⟩
    have b5 : Bl W5 w4.heap.size (cb M) 28 := by rw [hW5]; exact hn4.over (by rw [cb_len, HM.out, zeros_len])
    have hb5' : Below w4.heap.size w4 W5 := by rw [hW5]; exact below_setCells ((Below.refl _ w4).alloc (Nat.le_refl _) _) (Nat.le_refl _) _ _
    have hb5 := next hb4 hb5'
    replace hky := hky.next hb5'
    have s5 : Sl W5 W5.heap.size (some ⟨w4.heap.size, 0, none⟩) 32 (cb M) := (b5.sl (o := 0) (n := 32) (by rw [List.drop_zero, List.take_of_length_le (by rw [cb_len, HM.out]; omega)]) (by rw [cb_len, HM.out]; omega)).up b5.lt
    have HW5 := Lib.hid hW5
    clear hW5 hn4 hb5' hb4 b5
    go_wp2_with (first
      | (refine wpList_alloc_zero rfl 28 rfl (zeros .u8 32) zero_sum ?_)
      | (refine wpList_store_mid rfl 28 _ _ rfl _ _ (cb M).toArray rfl rfl (Bl.there_ (Bl.new _ (zeros .u8 32) 28) (by simp [zeros, cb_len, HM.out])) (by rw [size_sum, List.size_toArray, cb_len, HM.out]) (all_oneCell_toArray (cb_one _)) ?_; change wpList _ _ _ _ _ (World.setCells (w4.alloc (.cells (zeros .u8 32).toArray 28)) w4.heap.size 0 (cb M)); rw [← HW5.out]))
    clear HW5
    refine (own_any M _ _ _ _ _ s5 (by simp) (by omega) (Nat.le_refl _)).mono ?_
    rintro e w6 ⟨X6, d6, rfl, h6⟩
    have hb6 := next hb5 h6.below
    have x6 := h6.sl
    replace hky := hky.next h6.below
    replace s5 := s5.nx h6.below
    clear h6 hb5
    go_wp2_with fail
    refine (own_any l1 _ _ _ _ _ (y1.below hb6) z1 (by omega) hb6.size).mono ?_
    rintro e w7 ⟨X7, d7, rfl, h7⟩
    have hb7 := next hb6 h7.below
    replace x6 := x6.nx h7.below
    replace hky := hky.next h7.below
    replace s5 := s5.nx h7.below
    go_wp2_with fail
    obtain ⟨hp, hbp⟩ := list_one 22 h7.sl (own_cap h7.own) h7.none_
    replace hb7 := next hb7 hbp
    replace x6 := x6.nx hbp
    replace hky := hky.next hbp
    replace s5 := s5.nx hbp
    clear h7 hbp hb6
    refine (holds_any (some ⟨gk, 0, none⟩) l0 M [l1] _ _ _ _ _ _ _ _ _ (.inl ⟨gk, rfl, hky⟩) x6 (Nat.le_refl _) (by unfold maxLen; omega) hp (Nat.le_refl _) (by omega) (HT.out.next hb7) (by simp; omega)).mono ?_
    rintro e w8 ⟨rfl, hbp⟩
    rw [show [l1].flatten = l1 by simp, ← HMM.out, same_self]
    have hb8 := next hb7 hbp
    replace hky := hky.next hbp
    replace s5 := s5.nx hbp
    clear hp hbp x6 hb7
    go_wp2_with fail
    have s31 : Sl w8 w8.heap.size (some ⟨w4.heap.size, 0, none⟩) 31 (cb (M.take 31)) := by
      have := sl_head s5 (k := 31) (by omega)
      rwa [show (cb M).take 31 = cb (M.take 31) by simp [cb]] at this
    refine (own_any (M.take 31) _ _ _ _ _ s31 (by simp) (by omega) (Nat.le_refl _)).mono ?_
    rintro e w9 ⟨X9, d9, rfl, h9⟩
    have hb9 := next hb8 h9.below
    have x9 := h9.sl
    replace hky := hky.next h9.below
    replace s5 := s5.nx h9.below
    clear h9 s31 hb8
    go_wp2_with fail
    refine (own_any l1 _ _ _ _ _ (y1.below hb9) z1 (by omega) hb9.size).mono ?_
    rintro e w10 ⟨X10, d10, rfl, h10⟩
    have hb10 := next hb9 h10.below
    replace x9 := x9.nx h10.below
    replace hky := hky.next h10.below
    replace s5 := s5.nx h10.below
    go_wp2_with fail
    obtain ⟨hp, hbp⟩ := list_one 22 h10.sl (own_cap h10.own) h10.none_
    replace hb10 := next hb10 hbp
    replace x9 := x9.nx hbp
    replace hky := hky.next hbp
    replace s5 := s5.nx hbp
    clear h10 hbp hb9
    refine (holds_any (some ⟨gk, 0, none⟩) l0 (M.take 31) [l1] _ _ _ _ _ _ _ _ _ (.inl ⟨gk, rfl, hky⟩) x9 (Nat.le_refl _) (by unfold maxLen; omega) hp (Nat.le_refl _) (by omega) (HT.out.next hb10) (by simp; omega)).mono ?_
    rintro e w11 ⟨rfl, hbp⟩
    rw [show [l1].flatten = l1 by simp, ← HMM.out, HCUT.out]
    have hb11 := next hb10 hbp
    replace hky := hky.next hbp
    replace s5 := s5.nx hbp
    clear hp hbp x9 hb10
    go_wp2_with fail
    refine (own_any M _ _ _ _ _ s5 (by simp) (by omega) (Nat.le_refl _)).mono ?_
    rintro e w12 ⟨X12, d12, rfl, h12⟩
    have hb12 := next hb11 h12.below
    have hkl := hky.lt
    replace hky := hky.next h12.below
    have own12 := h12.own
    obtain ⟨gx, cx, ex, hgx, hgxl⟩ := own12.form (by omega)
    injection ex with ex _ ecx
    subst ex; subst ecx
    obtain ⟨k, hk⟩ : ∃ k, k = at2 % 32 := ⟨_, rfl⟩
    have hk32 : k < 32 := by omega
    have hkM : k < M.length := by rw [HM.out]; exact hk32
    have HSET := Lib.hid (same_set M k y hkM)
    have hcl : w12.cell? ⟨gx, k, none⟩ = some (.int .u8 ((M[k].toNat : Nat) : Int)) := by rw [own12.cellAt k (by omega), cb_at hkM]
    have hfz := own12.frozenAt k
    have hst := (own12.stored k (bc (M[k] ^^^ y))).1
    rw [← cb_set] at hst
    have hxor := byte_xor M[k] y
    have hmod : ((at2 : Nat) : Int) % 32 = (k : Int) := by omega
    obtain ⟨x, hx⟩ : ∃ x, x = M[k] := ⟨_, rfl⟩
    rw [← hx] at hcl hxor hst HSET
    have hxl := x.toNat_lt
    have hyl := y.toNat_lt
    have hb13' : Below w11.heap.size w11 (w12.setCell ⟨gx, k, none⟩ (bc (x ^^^ y))) := h12.below.setCell (by simp; omega) _
    have HST := Lib.hid hst
    have HXOR := Lib.hid hxor
    have HB13 := Lib.hid hb13'
    have hky13 : Ky (w12.setCell ⟨gx, k, none⟩ (bc (x ^^^ y))) gk l0 := hky.keep (heap_setCell_other _ _ _ _ (by simp; omega))
    have HKY := Lib.hid hky13
    clear h12 own12 hst hxor hb13' hky13 hky hx s5 hk hb12
    go_wp2_with fail
    obtain ⟨W13, hW13⟩ : ∃ W, W = w12.setCell ⟨gx, k, none⟩ (.int .u8 (bits BinOp.xor IntKind.u8 (x.toNat : Int) (y.toNat : Int))) := ⟨_, rfl⟩
    have own13 := HST.out
    have bel13 := HB13.out
    have hky := HKY.out
    rw [← hW13]
    rw [HXOR.out] at hW13
    change W13 = w12.setCell ⟨gx, k, none⟩ (bc (x ^^^ y)) at hW13
    rw [← hW13] at own13 bel13 hky
    have hb13 := next hb11 bel13
    have x13 := Sl.own own13
    clear hW13 HST HB13 HKY hcl hfz hb11 bel13
    refine (own_any l1 _ _ _ _ _ (y1.below hb13) z1 (by omega) hb13.size).mono ?_
    rintro e w14 ⟨X14, d14, rfl, h14⟩
    have hb14 := next hb13 h14.below
    replace x13 := x13.nx h14.below
    replace hky := hky.next h14.below
    go_wp2_with fail
    obtain ⟨hp, hbp⟩ := list_one 22 h14.sl (own_cap h14.own) h14.none_
    replace hb14 := next hb14 hbp
    replace x13 := x13.nx hbp
    replace hky := hky.next hbp
    clear h14 hbp hb13 own13
    refine (holds_any (some ⟨gk, 0, none⟩) l0 (M.set k (x ^^^ y)) [l1] _ _ _ _ _ _ _ _ _ (.inl ⟨gk, rfl, hky⟩) x13 (Nat.le_refl _) (by unfold maxLen; omega) hp (Nat.le_refl _) (by omega) (HT.out.next hb14) (by simp; omega)).mono ?_
    rintro e w15 ⟨rfl, hbp⟩
    rw [show [l1].flatten = l1 by simp, ← HMM.out, HSET.out]
    have hb15 := next hb14 hbp
    clear hp hbp x13 hky hb14
    go_wp2_with fail
    refine (awake3_any _ (HT.out.next hb15)).mono ?_
    rintro e w16 ⟨rfl, hb16⟩
    go_wp2
    go_ret
    exact ⟨rfl, next hb15 hb16⟩
  · rcases (show 4000 < l0.length ∨ (l0.length ≤ 4000 ∧ 4000 < l1.length) by omega) with q0 | ⟨q0, q1⟩
    · have k0 : decide (4000 < (l0.length : Int)) = true := by simp; omega
      clear hbig
      go_enter Tryd.func7, Tryd.ntmps7
      go_wp2_with (go_at_call 9; refine (awake3_any _ HT.out).mono ?_; rintro e w' ⟨rfl, hb⟩)
      go_ret
      exact ⟨rfl, hb⟩
    · have k0 : decide (4000 < (l0.length : Int)) = false := by simp; omega
      have k1 : decide (4000 < (l1.length : Int)) = true := by simp; omega
      clear hbig
      go_enter Tryd.func7, Tryd.ntmps7
      go_wp2_with (go_at_call 9; refine (awake3_any _ HT.out).mono ?_; rintro e w' ⟨rfl, hb⟩)
      go_ret
      exact ⟨rfl, hb⟩

end Go.Proofs.YtnhpedgolgdoiaaDoor

