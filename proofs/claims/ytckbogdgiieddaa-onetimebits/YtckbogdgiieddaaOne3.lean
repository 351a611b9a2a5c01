/- The walk of the law OnetimeBits. -/
import Derived.Test.YtckbogdgiieddaaLP
import Derived.Test.YtckbogdgiieddaaOpn
namespace Go.Proofs.Ytckbogdgiieddaa
open Go.RowKit
set_option linter.unusedVariables false
set_option linter.unusedSimpArgs false

/-- The bits that are 0 in r. -/
def mk (i : Nat) : UInt8 := if i % 4 = 3 then 240 else if i % 4 = 0 ∧ 0 < i then 3 else 0
/-- The key with bits turned, and the key of them alone, the first k bytes done. -/
def xT (key turn : List UInt8) : Nat → List UInt8
  | 0 => key
  | k + 1 => (xT key turn k).set k ((xT key turn k).getD k 0 ^^^ (turn.getD k 0 &&& mk k))
def nT (key turn : List UInt8) : Nat → List UInt8
  | 0 => key
  | k + 1 => (nT key turn k).set k (turn.getD k 0 &&& mk k)
theorem xT_len (key turn : List UInt8) (k : Nat) : (xT key turn k).length = key.length := by induction k with
  | zero => rfl
  | succ k ih => rw [xT, List.length_set, ih]
theorem nT_len (key turn : List UInt8) (k : Nat) : (nT key turn k).length = key.length := by induction k with
  | zero => rfl
  | succ k ih => rw [nT, List.length_set, ih]
theorem xT_drop (key turn : List UInt8) (k : Nat) (hk : k ≤ 16) : (xT key turn k).drop 16 = key.drop 16 := by induction k with
  | zero => rfl
  | succ k ih => rw [xT, List.drop_set_of_lt (by omega), ih (by omega)]
theorem nT_drop (key turn : List UInt8) (k : Nat) (hk : k ≤ 16) : (nT key turn k).drop 16 = key.drop 16 := by induction k with
  | zero => rfl
  | succ k ih => rw [nT, List.drop_set_of_lt (by omega), ih (by omega)]
theorem u8_toNat_inj {a b : UInt8} (h : a.toNat = b.toNat) : a = b := UInt8.toNat_inj.1 h
theorem clear_15 (k t : UInt8) : (k ^^^ (t &&& 240)) &&& 15 = k &&& 15 := by
  apply u8_toNat_inj
  simp only [UInt8.toNat_and, UInt8.toNat_xor]
  rw [Nat.and_xor_distrib_right, Nat.and_assoc]
  have : (240 : UInt8).toNat &&& (15 : UInt8).toNat = 0 := by decide
  rw [this, Nat.and_zero, Nat.xor_zero]
theorem clear_252 (k t : UInt8) : (k ^^^ (t &&& 3)) &&& 252 = k &&& 252 := by
  apply u8_toNat_inj
  simp only [UInt8.toNat_and, UInt8.toNat_xor]
  rw [Nat.and_xor_distrib_right, Nat.and_assoc]
  have : (3 : UInt8).toNat &&& (252 : UInt8).toNat = 0 := by decide
  rw [this, Nat.and_zero, Nat.xor_zero]
theorem none_15 (t : UInt8) : (t &&& 240) &&& 15 = 0 := by rw [UInt8.and_assoc, show (240 &&& 15 : UInt8) = 0 by decide, UInt8.and_zero]
theorem none_252 (t : UInt8) : (t &&& 3) &&& 252 = 0 := by rw [UInt8.and_assoc, show (3 &&& 252 : UInt8) = 0 by decide, UInt8.and_zero]
theorem getD_set8 (l : List UInt8) (k i : Nat) (v : UInt8) : (l.set k v).getD i 0 = if i = k ∧ k < l.length then v else l.getD i 0 := by
  rw [List.getD_eq_getElem?_getD, List.getD_eq_getElem?_getD, List.getElem?_set]
  by_cases h1 : k = i
  · subst h1
    by_cases h2 : k < l.length
    · simp [h2]
    · simp [h2]
  · have h3 : ¬ i = k := fun e => h1 e.symm
    simp [h1, h3]
theorem ext8 {l m : List UInt8} (h : l.length = m.length) (k : ∀ i, i < l.length → l.getD i 0 = m.getD i 0) : l = m := by
  apply List.ext_getElem h
  intro i h1 h2
  have := k i h1
  rwa [getD_at l i h1, getD_at m i h2] at this
theorem bA_getD (l : List UInt8) (k i : Nat) (hk : 4 * k ≤ l.length) : (bA l k).getD i 0 = if i % 4 = 3 ∧ i < 4 * k then l.getD i 0 &&& 15 else l.getD i 0 := by
  induction k with
  | zero => rw [bA, if_neg (by omega)]
  | succ k ih =>
    rw [bA, getD_set8, bA_len]
    by_cases h1 : i = 3 + 4 * k
    · rw [if_pos ⟨h1, by omega⟩, if_pos (by omega), ← h1, ih (by omega), if_neg (by omega)]
    · rw [if_neg (by omega), ih (by omega)]
      by_cases h2 : i % 4 = 3 ∧ i < 4 * k
      · rw [if_pos h2, if_pos (by omega)]
      · rw [if_neg h2, if_neg (by omega)]
theorem bB_getD (l : List UInt8) (k i : Nat) (hk : 4 + 4 * k ≤ l.length) : (bB l k).getD i 0 = if i % 4 = 0 ∧ 0 < i ∧ i < 4 + 4 * k then l.getD i 0 &&& 252 else l.getD i 0 := by
  induction k with
  | zero => rw [bB, if_neg (by omega)]
  | succ k ih =>
    rw [bB, getD_set8, bB_len]
    by_cases h1 : i = 4 + 4 * k
    · rw [if_pos ⟨h1, by omega⟩, if_pos (by omega), ← h1, ih (by omega), if_neg (by omega)]
    · rw [if_neg (by omega), ih (by omega)]
      by_cases h2 : i % 4 = 0 ∧ 0 < i ∧ i < 4 + 4 * k
      · rw [if_pos h2, if_pos (by omega)]
      · rw [if_neg h2, if_neg (by omega)]
theorem rB_getD (l : List UInt8) (i : Nat) (h : l.length = 17) : (rB l).getD i 0 = if i % 4 = 3 ∧ i < 16 then l.getD i 0 &&& 15 else if i % 4 = 0 ∧ 0 < i ∧ i < 16 then l.getD i 0 &&& 252 else l.getD i 0 := by
  rw [rB, bB_getD _ _ _ (by rw [bA_len, h]; omega), bA_getD _ _ _ (by omega)]
  by_cases h1 : i % 4 = 3 ∧ i < 16
  · rw [if_neg (by omega), if_pos (by omega), if_pos h1]
  · rw [if_neg h1]
    by_cases h2 : i % 4 = 0 ∧ 0 < i ∧ i < 16
    · rw [if_pos (by omega), if_neg (by omega)]
    · rw [if_neg (by omega), if_neg (by omega)]
theorem wid_getD (l : List UInt8) (i : Nat) : (wid l).getD i 0 = l.getD i 0 := by
  unfold wid
  rw [List.getD_eq_getElem?_getD, List.getD_eq_getElem?_getD]
  rcases Nat.lt_or_ge i l.length with h | h
  · rw [List.getElem?_append_left h]
  · rw [List.getElem?_append_right h, List.getElem?_eq_none h, List.getElem?_replicate]
    split <;> rfl
theorem xT_getD (key turn : List UInt8) (k i : Nat) (hk : k ≤ key.length) : (xT key turn k).getD i 0 = if i < k then key.getD i 0 ^^^ (turn.getD i 0 &&& mk i) else key.getD i 0 := by
  induction k with
  | zero => rw [xT, if_neg (by omega)]
  | succ k ih =>
    rw [xT, getD_set8, xT_len]
    by_cases h1 : i = k
    · subst h1
      rw [if_pos ⟨rfl, by omega⟩, if_pos (by omega), ih (by omega), if_neg (by omega)]
    · rw [if_neg (by omega), ih (by omega)]
      by_cases h2 : i < k
      · rw [if_pos h2, if_pos (by omega)]
      · rw [if_neg h2, if_neg (by omega)]
theorem nT_getD (key turn : List UInt8) (k i : Nat) (hk : k ≤ key.length) : (nT key turn k).getD i 0 = if i < k then turn.getD i 0 &&& mk i else key.getD i 0 := by
  induction k with
  | zero => rw [nT, if_neg (by omega)]
  | succ k ih =>
    rw [nT, getD_set8, nT_len]
    by_cases h1 : i = k
    · subst h1
      rw [if_pos ⟨rfl, by omega⟩, if_pos (by omega)]
    · rw [if_neg (by omega), ih (by omega)]
      by_cases h2 : i < k
      · rw [if_pos h2, if_pos (by omega)]
      · rw [if_neg h2, if_neg (by omega)]
theorem out8 (l : List UInt8) (i : Nat) (h : l.length ≤ i) : l.getD i 0 = 0 := by rw [List.getD_eq_getElem?_getD, List.getElem?_eq_none h]; rfl
/-- The first half changes by itself. -/
theorem xT_take (key turn : List UInt8) (h : 16 ≤ key.length) (k : Nat) (hk : k ≤ 16) : (xT key turn k).take 16 = xT (key.take 16) turn k := by induction k with
  | zero => rfl
  | succ k ih =>
    have e : (xT key turn k).getD k 0 = ((xT key turn k).take 16).getD k 0 := by rw [List.getD_eq_getElem?_getD, List.getD_eq_getElem?_getD, List.getElem?_take_of_lt (by omega)]
    rw [xT, xT, List.take_set, e, ← ih (by omega)]
theorem nT_take (key turn : List UInt8) (h : 16 ≤ key.length) (k : Nat) (hk : k ≤ 16) : (nT key turn k).take 16 = nT (key.take 16) turn k := by induction k with
  | zero => rfl
  | succ k ih => rw [nT, nT, List.take_set, ← ih (by omega)]
theorem xT_r (half turn : List UInt8) (h : half.length = 16) : rB (wid (xT half turn 16)) = rB (wid half) := by
  have l1 : (wid (xT half turn 16)).length = 17 := wid_len _ (by rw [xT_len, h]; omega)
  have l2 : (wid half).length = 17 := wid_len _ (by omega)
  refine ext8 (by rw [rB_len, rB_len, l1, l2]) fun i hi => ?_
  rw [rB_getD _ _ l1, rB_getD _ _ l2, wid_getD, wid_getD, xT_getD _ _ _ _ (by omega)]
  by_cases h1 : i % 4 = 3 ∧ i < 16
  · rw [if_pos h1, if_pos h1, if_pos h1.2, mk, if_pos h1.1, clear_15]
  · rw [if_neg h1, if_neg h1]
    by_cases h2 : i % 4 = 0 ∧ 0 < i ∧ i < 16
    · rw [if_pos h2, if_pos h2, if_pos h2.2.2, mk, if_neg (by omega), if_pos ⟨h2.1, h2.2.1⟩, clear_252]
    · rw [if_neg h2, if_neg h2]
      by_cases h3 : i < 16
      · rw [if_pos h3, mk, if_neg (by omega), if_neg (by omega), UInt8.and_zero, UInt8.xor_zero]
      · rw [if_neg h3]
theorem nT_r (half turn : List UInt8) (h : half.length = 16) : rB (wid (nT half turn 16)) = List.replicate 17 0 := by
  have l1 : (wid (nT half turn 16)).length = 17 := wid_len _ (by rw [nT_len, h]; omega)
  refine ext8 (by rw [rB_len, l1]; rfl) fun i hi => ?_
  have e0 : (List.replicate 17 (0 : UInt8)).getD i 0 = 0 := by rw [List.getD_eq_getElem?_getD, List.getElem?_replicate]; split <;> rfl
  rw [e0, rB_getD _ _ l1, wid_getD, nT_getD _ _ _ _ (by omega)]
  by_cases h1 : i % 4 = 3 ∧ i < 16
  · rw [if_pos h1, if_pos h1.2, mk, if_pos h1.1, none_15]
  · rw [if_neg h1]
    by_cases h2 : i % 4 = 0 ∧ 0 < i ∧ i < 16
    · rw [if_pos h2, if_pos h2.2.2, mk, if_neg (by omega), if_pos ⟨h2.1, h2.2.1⟩, none_252]
    · rw [if_neg h2]
      by_cases h3 : i < 16
      · rw [if_pos h3, mk, if_neg (by omega), if_neg (by omega), UInt8.and_zero]
      · rw [if_neg h3, out8 _ _ (by omega)]
theorem pk_none (b : List UInt8) (k : Nat) : pk 0 b k = 0 := by cases k with
  | zero => rfl
  | succ k => rw [pk, Nat.mul_zero, Nat.zero_mod]
theorem tag_s (key : List UInt8) (h : key.length = 32) : le (0 + sK key) 16 = key.drop 16 := by
  have := le_lv (key.drop 16)
  rw [List.length_drop, h] at this
  rw [Nat.zero_add]
  exact this
theorem bits_x (key turn b : List UInt8) (h : key.length = 32) : tagR (xT key turn 16) b = tagR key b := by
  unfold tagR tagL
  rw [xT_len]
  have e1 : rK (xT key turn 16) = rK key := by unfold rK rN; rw [xT_take _ _ (by omega) 16 (by omega), xT_r _ _ (by rw [List.length_take, h]; rfl)]
  have e2 : sK (xT key turn 16) = sK key := by unfold sK; rw [xT_drop _ _ _ (by omega)]
  rw [e1, e2]
theorem bits_none (key turn b : List UInt8) (h : key.length = 32) : tagR (nT key turn 16) b = key.drop 16 := by
  unfold tagR tagL
  rw [nT_len, if_pos h]
  have e1 : rK (nT key turn 16) = 0 := by unfold rK rN; rw [nT_take _ _ (by omega) 16 (by omega), nT_r _ _ (by rw [List.length_take, h]; rfl), lv_zeros]
  have e2 : sK (nT key turn 16) = sK key := by unfold sK; rw [nT_drop _ _ _ (by omega)]
  rw [e1, e2, pk_none, tag_s key h]
theorem bits_empty (key : List UInt8) (h : key.length = 32) : tagR key [] = key.drop 16 := by
  unfold tagR tagL
  rw [if_pos h]
  exact tag_s key h

/-- 's[k:]' as a step of a region that only reads. -/
theorem wpStill_slice_from {P : Program} {ops : Array Oper} {w : World} {Q : Act → Prop} {a : Act} {o : Oper} {rest : List Oper} (hw : Region.wanted o (yielded ops a.tmps) = true) (t : TypeId) (x lo : Operand) (ho : o.op = .slice t x (some lo) none none)
    (e : TypeId) (ht : P.underlying t = some (.slice e)) (he : (P.info? e).map (·.size) = some 1) (A : Option Addr) (n c k : Nat) (kl : IntKind) (L : Int) (hx : a.eval x = .slice A n c) (hlo : a.eval lo = .int kl L) (eL : L = k) (hk : k ≤ n) (hc : n ≤ c) (hA : A = none → c = 0) (A' : Option Addr) (hA' : A' = if c = k then A else A.map (·.add k))
    (K : wpStill P ops w Q rest (a.put o.dst (.slice A' (n - k) (c - k)))) : wpStill P ops w Q (o :: rest) a := by
  have hr := run_slice_from (P := P) w t e ht he A n c k kl L eL hk hc hA
  rw [← hA'] at hr
  unfold wpStill
  rw [if_pos hw]
  unfold Oper.still execOp
  simp only [ho, Option.map_some, Option.map_none, hx, hlo, Instr.sliceAt, Sem.run_bind, run_underlying ht, Result.andThen_ok, hr, Sem.run_pure, Oper.stillUpon_value]
  exact K

theorem zero_b16 : (Try.prog.info? 36).map (·.size) = some 16 := by kernel_rfl

set_option maxRecDepth 100000 in
set_option maxHeartbeats 4000000 in
theorem onetimeBits_walk (A0 : Option Addr) (n0 c0 : Nat) (l0 : List UInt8) (A1 : Option Addr) (n1 c1 : Nat) (l1 l2 : List UInt8) (w : World) (s0 : InBytes w A0 n0 c0 l0) (s1 : InBytes w A1 n1 c1 l1) (s2 : l2.length = 16) :
    Calls Try.prog 5 #[.slice A0 n0 c0, .slice A1 n1 c1, .agg (cb l2).toArray] w fun e w' => e = .returned (.bool true) ∧ Below w.heap.size w w' := by
  have y0 := s0.sl
  have z0 := s0.none_
  have y1 := s1.sl
  have z1 := s1.none_
  have r0 := s0.room
  have r1 := s1.room
  have p0 := s0.cap
  have p1 := s1.cap
  have HN0 := Lib.hid s0.len
  have HL2 := Lib.hid s2
  clear s0 s1 s2
  have bt := Bl.new w (cb l2) 36
  have hbt : Below w.heap.size w (w.alloc (.cells (cb l2).toArray 36)) := (Below.refl _ w).alloc (Nat.le_refl _) _
  obtain ⟨W0, hW0⟩ : ∃ W, W = w.alloc (.cells (cb l2).toArray 36) := ⟨_, rfl⟩
  rw [← hW0] at bt hbt
  have HW0 := Lib.hid hW0
  clear hW0
  by_cases hbig : n1 ≤ 4000
  · have q1 : ¬ (4000 : Int) < (n1 : Int) := by omega
    go_enter Try.func5, Try.ntmps5
    go_wp2_with (refine wpList_box_agg rfl 36 _ rfl (cb l2) rfl ?_; rw [← HW0.out])
    refine (own_any l0 _ _ _ _ _ (y0.below hbt) z0 (by omega) hbt.size).mono ?_
    rintro e w1 ⟨X0, d0, rfl, h1⟩
    have hb1 := next hbt h1.below
    replace bt := bt.next h1.below
    have x0 := h1.sl
    have f0 := h1.none_
    have g0 := own_cap h1.own
    clear h1 hbt
    go_wp2_with fail
    refine (own_any l1 _ _ _ _ _ (y1.below hb1) z1 (by omega) hb1.size).mono ?_
    rintro e w2 ⟨X1, d1, rfl, h2⟩
    have hb2 := next hb1 h2.below
    replace bt := bt.next h2.below
    replace x0 := x0.nx h2.below
    have x1 := h2.sl
    have f1 := h2.none_
    have g1 := own_cap h2.own
    clear h2 hb1
    go_wp2_with fail
    refine (ottag_any l0 l1 w2 _ _ _ _ _ _ x0 g0 f0 (by unfold maxLen; omega) x1 g1 f1 (by unfold maxLen; omega)).mono ?_
    rintro e w3 ⟨X3, n3, d3, rfl, h3⟩
    have hb3 := next hb2 h3.below
    replace bt := bt.next h3.below
    have x3 := h3.sl
    have k3 := h3.len
    clear h3 hb2 x0 x1 f0 f1 g0 g1
    by_cases h32 : l0.length = 32
    · have HK := Lib.hid h32
      have hn0 : n0 = 32 := by rw [HN0.out, h32]
      subst hn0
      obtain ⟨T, hT⟩ : ∃ T, T = tagR l0 l1 := ⟨_, rfl⟩
      rw [← hT] at x3
      have HT := Lib.hid hT
      have HTE : Hid (tagE l0 = 0) := by unfold Hid tagE; rw [if_pos h32]
      rw [HTE.out]
      clear h32 hT k3
      go_wp2_with fail
      refine (own_any l0 _ _ _ _ _ (y0.below hb3) z0 (by omega) hb3.size).mono ?_
      rintro e w4 ⟨X4, d4, rfl, h4⟩
      obtain ⟨gx, cx, hAe, hgx, hgx2⟩ := h4.own.form (by omega)
      injection hAe with hA1 _ hA3
      subst hA1; subst hA3
      have hox := h4.own
      have hb34 := h4.below
      clear h4
      go_wp2_with fail
      refine (own_any l0 _ _ _ _ _ (y0.below (next hb3 hb34)) z0 (by omega) (next hb3 hb34).size).mono ?_
      rintro e w5 ⟨X5, d5, rfl, h5⟩
      obtain ⟨gn, cn, hAe, hgn, hgn2⟩ := h5.own.form (by omega)
      injection hAe with hA1 _ hA3
      subst hA1; subst hA3
      have hon := h5.own
      replace hox := own_below hox h5.below
      have hb35 := next hb34 h5.below
      have hne : gx < gn := by omega
      have hs34 := hb34.size
      have hgn3 : w3.heap.size ≤ gn := by omega
      have hcx := own_cap hox
      have hcn := own_cap hon
      clear h5 hb34 hgx2 hgn2
      go_wp2
      go_loopw [48] (fun t wr => ∃ k : Nat, k ≤ 16 ∧ t = .int .i64 k ∧ wr.ownsRow w3.heap.size 5 1 (.slice (some ⟨gx, 0, none⟩) 32 d4) 32 (cb (xT l0 l2 k)) ∧ wr.ownsRow w3.heap.size 5 1 (.slice (some ⟨gn, 0, none⟩) 32 d5) 32 (cb (nT l0 l2 k)) ∧ Below w3.heap.size w3 wr) (fun t _ => 16 - (intOf t).toNat)
      case atStart => exact ⟨0, by omega, rfl, hox, own_down hon (by omega), hb35⟩
      case round =>
        clear hox hon hb35
        obtain ⟨k, hk, rfl, hox, hon, hb35⟩ := hrel
        by_cases hlt : k < 16
        · obtain ⟨xk, hxk⟩ : ∃ x, x = (xT l0 l2 k).getD k 0 := ⟨_, rfl⟩
          obtain ⟨tk, htk⟩ : ∃ x, x = l2.getD k 0 := ⟨_, rfl⟩
          obtain ⟨m, hm⟩ : ∃ m, m = mk k := ⟨_, rfl⟩
          obtain ⟨v, hv⟩ : ∃ v, v = tk &&& m := ⟨_, rfl⟩
          have ev : bits BinOp.and IntKind.u8 (tk.toNat : Int) (m.toNat : Int) = (v.toNat : Int) := by rw [hv]; exact byte_and tk m
          obtain ⟨u, hu⟩ : ∃ u, u = xk ^^^ v := ⟨_, rfl⟩
          have eu : bits BinOp.xor IntKind.u8 (xk.toNat : Int) (v.toNat : Int) = (u.toNat : Int) := by rw [hu]; exact byte_xor2 xk v
          have btr := bt.below hb35 bt.lt
          have hct : wr.cell? ⟨w.heap.size, k, none⟩ = some (.int .u8 (tk.toNat : Int)) := by rw [btr.cell, cb_at (by rw [HL2.out]; exact hlt), htk, getD_at _ _ (by rw [HL2.out]; exact hlt)]
          have hcx1 : wr.cell? ⟨gx, k, none⟩ = some (.int .u8 (xk.toNat : Int)) := by rw [hox.cellAt k (by omega), cb_at (by rw [xT_len, HK.out]; omega), hxk, getD_at _ _ (by rw [xT_len, HK.out]; omega)]
          have hfx := hox.frozenAt k
          obtain ⟨hox2, _⟩ := hox.stored k (bc u)
          rw [← cb_set, hu, hv, hxk, htk, hm, ← xT, ← hm, ← htk, ← hxk, ← hv, ← hu] at hox2
          have hon2 := own_keep hon (w' := wr.setCell ⟨gx, k, none⟩ (bc u)) (fun g hg => by obtain rfl : gn = g := Option.some.inj hg; exact heap_setCell_other _ _ _ _ (by simp; omega))
          have hb2 := hb35.setCell (p := ⟨gx, k, none⟩) hgx (bc u)
          have bt2 := btr.set_other ⟨gx, k, none⟩ (bc u) (by simp; have := bt.lt; omega)
          obtain ⟨W2, hW2⟩ : ∃ W, W = (wr.setCell ⟨gx, k, none⟩ (.int .u8 (u.toNat : Int))).drew := ⟨_, rfl⟩
          have hW2' : (wr.setCell ⟨gx, k, none⟩ (bc u)).drew = W2 := hW2.symm
          have hox3 : W2.ownsRow w3.heap.size 5 1 (.slice (some ⟨gx, 0, none⟩) 32 d4) 32 (cb (xT l0 l2 (k + 1))) := by rw [← hW2']; exact hox2
          have hon3 : W2.ownsRow w3.heap.size 5 1 (.slice (some ⟨gn, 0, none⟩) 32 d5) 32 (cb (nT l0 l2 k)) := by rw [← hW2']; exact hon2
          have hb3' : Below w3.heap.size w3 W2 := by rw [← hW2']; exact hb2.drew
          have hct2 : W2.cell? ⟨w.heap.size, k, none⟩ = some (.int .u8 (tk.toNat : Int)) := by
            rw [← hW2', bt2.drew.cell, cb_at (by rw [HL2.out]; exact hlt), htk, getD_at _ _ (by rw [HL2.out]; exact hlt)]
          obtain ⟨un, hcn1⟩ := own_cell hon3 (k := k) (by omega)
          have hfn := hon3.frozenAt k
          obtain ⟨hon4, _⟩ := hon3.stored k (bc v)
          rw [← cb_set, hv, htk, hm, ← nT, ← hm, ← htk, ← hv] at hon4
          have hox4 := own_keep hox3 (w' := W2.setCell ⟨gn, k, none⟩ (bc v)) (fun g hg => by obtain rfl : gx = g := Option.some.inj hg; exact heap_setCell_other _ _ _ _ (by simp; omega))
          have hb4 := hb3'.setCell (p := ⟨gn, k, none⟩) (by simp; omega) (bc v)
          have HW2 := Lib.hid hW2
          have HX4 := Lib.hid hox4
          have HN4 := Lib.hid hon4
          have HB4 := Lib.hid hb4
          have hi0 : (0 : Int) ≤ (k : Int) := by omega
          have hi1 : (k : Int) < 16 := by omega
          have hi2 : (k : Int) < 32 := by omega
          have hcase : ((k : Int) % 4 = 3 ∧ m = 240) ∨ ((k : Int) % 4 = 0 ∧ 0 < (k : Int) ∧ m = 3) ∨ ((k : Int) % 4 = 0 ∧ ¬ 0 < (k : Int) ∧ m = 0) ∨ (((k : Int) % 4 = 1 ∨ (k : Int) % 4 = 2) ∧ m = 0) := by
            rw [hm]
            unfold mk
            rcases (show k % 4 = 3 ∨ (k % 4 = 0 ∧ 0 < k) ∨ (k % 4 = 0 ∧ k = 0) ∨ k % 4 = 1 ∨ k % 4 = 2 by omega) with h | h | h | h | h
            · exact .inl ⟨by omega, by rw [if_pos h]⟩
            · exact .inr (.inl ⟨by omega, by omega, by rw [if_neg (by omega), if_pos h]⟩)
            · exact .inr (.inr (.inl ⟨by omega, by omega, by rw [if_neg (by omega), if_neg (by omega)]⟩))
            · exact .inr (.inr (.inr ⟨.inl (by omega), by rw [if_neg (by omega), if_neg (by omega)]⟩))
            · exact .inr (.inr (.inr ⟨.inr (by omega), by rw [if_neg (by omega), if_neg (by omega)]⟩))
          clear hxk htk hm hv hu hox hon hb35 hox2 hon2 hb2 bt2 hW2 hW2' hox3 hon3 hb3' hon4 hox4 hb4 btr
          rcases hcase with ⟨h, hm⟩ | ⟨h, h', hm⟩ | ⟨h, h', hm⟩ | ⟨h, hm⟩
          · have ev' : bits BinOp.and IntKind.u8 (tk.toNat : Int) 240 = (v.toNat : Int) := by rw [hm] at ev; exact ev
            have q1 : ((k : Int) % 4 == 3) = true := by simp; omega
            have q2 : ((k : Int) % 4 == 0) = false := by simp; omega
            clear ev hm h
            rw [HW2.out] at hct2 hcn1 hfn HX4 HN4 HB4
            go_wp2
            go_still_tail 11, (by kernel_rfl)
            go_wp2
            go_roundw
            case rel => exact ⟨k + 1, by omega, by go_num, HX4.out, HN4.out, HB4.out⟩
            case measure => simp [intOf]; omega
          · have ev' : bits BinOp.and IntKind.u8 (tk.toNat : Int) 3 = (v.toNat : Int) := by rw [hm] at ev; exact ev
            have q1 : ((k : Int) % 4 == 3) = false := by simp; omega
            have q2 : ((k : Int) % 4 == 0) = true := by simp; omega
            clear ev hm h
            rw [HW2.out] at hct2 hcn1 hfn HX4 HN4 HB4
            go_wp2
            go_still_tail 11, (by kernel_rfl)
            go_wp2
            go_roundw
            case rel => exact ⟨k + 1, by omega, by go_num, HX4.out, HN4.out, HB4.out⟩
            case measure => simp [intOf]; omega
          · have ev' : bits BinOp.and IntKind.u8 (tk.toNat : Int) 0 = (v.toNat : Int) := by rw [hm] at ev; exact ev
            have q1 : ((k : Int) % 4 == 3) = false := by simp; omega
            have q2 : ((k : Int) % 4 == 0) = true := by simp; omega
            clear ev hm h
            rw [HW2.out] at hct2 hcn1 hfn HX4 HN4 HB4
            go_wp2
            go_still_tail 11, (by kernel_rfl)
            go_wp2
            go_roundw
            case rel => exact ⟨k + 1, by omega, by go_num, HX4.out, HN4.out, HB4.out⟩
            case measure => simp [intOf]; omega
          · have ev' : bits BinOp.and IntKind.u8 (tk.toNat : Int) 0 = (v.toNat : Int) := by rw [hm] at ev; exact ev
            have q1 : ((k : Int) % 4 == 3) = false := by simp; omega
            have q2 : ((k : Int) % 4 == 0) = false := by simp; omega
            clear ev hm h
            rw [HW2.out] at hct2 hcn1 hfn HX4 HN4 HB4
            go_wp2
            go_still_tail 11, (by kernel_rfl)
            go_wp2
            go_roundw
            case rel => exact ⟨k + 1, by omega, by go_num, HX4.out, HN4.out, HB4.out⟩
            case measure => simp [intOf]; omega
        · have HK16 : Hid (k = 16) := (by omega : k = 16)
          rw [HK16.out] at hox hon
          obtain ⟨X, hX⟩ : ∃ X, X = xT l0 l2 16 := ⟨_, rfl⟩
          obtain ⟨Nn, hNn⟩ : ∃ X, X = nT l0 l2 16 := ⟨_, rfl⟩
          rw [← hX] at hox
          rw [← hNn] at hon
          obtain ⟨D, hD⟩ : ∃ D, D = l0.drop 16 := ⟨_, rfl⟩
          have HX : Hid (tagR X l1 = T ∧ tagE X = 0) := by
            unfold Hid; rw [hX, bits_x l0 l2 l1 HK.out, HT.out]
            refine ⟨rfl, ?_⟩
            unfold tagE; rw [if_pos (by rw [xT_len]; exact HK.out)]
          have HNn : Hid (tagR Nn l1 = D ∧ tagE Nn = 0) := by
            unfold Hid; rw [hNn, bits_none l0 l2 l1 HK.out, hD]
            refine ⟨rfl, ?_⟩
            unfold tagE; rw [if_pos (by rw [nT_len]; exact HK.out)]
          have HEm : Hid (tagR l0 [] = D) := by unfold Hid; rw [bits_empty l0 HK.out, hD]
          have s2 := sl_cut (k := 16) y0 (by omega) p0
          rw [show (cb l0).drop 16 = cb (l0.drop 16) by simp [cb], ← hD] at s2
          obtain ⟨A4, hA4⟩ : ∃ A4, A4 = if c0 = 16 then A0 else A0.map (·.add 16) := ⟨_, rfl⟩
          rw [← hA4] at s2
          have HA4 := Lib.hid hA4
          have hsx := Sl.own hox
          have hsn := Sl.own hon
          replace x3 := x3.nx hb35
          have hb6 := hb3.trans (hb35.mono hb3.size)
          have hq16 : ¬ (k : Int) < 16 := by omega
          obtain ⟨w6, hw6⟩ : ∃ x, x = wr := ⟨wr, rfl⟩
          subst hw6
          clear hX hNn hD hA4 hox hon hb35 hb3 bt
          go_wp2_with fail
          refine (own_any l1 _ _ _ _ _ (y1.below hb6) z1 (by omega) hb6.size).mono ?_
          rintro e w7 ⟨X7, d7, rfl, h7⟩
          have x7 := h7.sl
          have f7 := h7.none_
          have g7 := own_cap h7.own
          replace hsx := hsx.nx h7.below
          replace hsn := hsn.nx h7.below
          replace x3 := x3.nx h7.below
          replace hb6 := next hb6 h7.below
          clear h7
          go_wp2_with fail
          refine (ottag_any X l1 w7 _ _ _ _ _ _ hsx (by omega) (by intro h; cases h) (by decide) x7 g7 f7 (by unfold maxLen; omega)).mono ?_
          rintro e w8 ⟨X8, n8, d8, rfl, h8⟩
          rw [HX.out.1] at h8
          rw [HX.out.2]
          have x8 := h8.sl
          replace hsn := hsn.nx h8.below
          replace x3 := x3.nx h8.below
          replace hb6 := next hb6 h8.below
          clear h8 hsx x7 f7 g7
          go_wp2_with fail
          refine (own_any l1 _ _ _ _ _ (y1.below hb6) z1 (by omega) hb6.size).mono ?_
          rintro e w9 ⟨X9, d9, rfl, h9⟩
          have x9 := h9.sl
          have f9 := h9.none_
          have g9 := own_cap h9.own
          replace hsn := hsn.nx h9.below
          replace x3 := x3.nx h9.below
          replace x8 := x8.nx h9.below
          replace hb6 := next hb6 h9.below
          clear h9
          go_wp2_with fail
          refine (ottag_any Nn l1 w9 _ _ _ _ _ _ hsn (by omega) (by intro h; cases h) (by decide) x9 g9 f9 (by unfold maxLen; omega)).mono ?_
          rintro e w10 ⟨X10, n10, d10, rfl, h10⟩
          rw [HNn.out.1] at h10
          rw [HNn.out.2]
          have x10 := h10.sl
          replace x3 := x3.nx h10.below
          replace x8 := x8.nx h10.below
          replace hb6 := next hb6 h10.below
          clear h10 hsn x9 f9 g9
          go_wp2_with fail
          refine (own_any l0 _ _ _ _ _ (y0.below hb6) z0 (by omega) hb6.size).mono ?_
          rintro e w11 ⟨X11, d11, rfl, h11⟩
          have x11 := h11.sl
          have f11 := h11.none_
          have g11 := own_cap h11.own
          replace x3 := x3.nx h11.below
          replace x8 := x8.nx h11.below
          replace x10 := x10.nx h11.below
          replace hb6 := next hb6 h11.below
          clear h11
          go_wp2_with fail
          refine (ottag_any l0 [] w11 _ none _ _ 0 0 x11 g11 f11 (by decide) Sl.nil_ (Nat.le_refl _) (fun _ => rfl) (by decide)).mono ?_
          rintro e w12 ⟨X12, n12, d12, rfl, h12⟩
          rw [HEm.out] at h12
          rw [HTE.out]
          have x12 := h12.sl
          replace x3 := x3.nx h12.below
          replace x8 := x8.nx h12.below
          replace x10 := x10.nx h12.below
          replace hb6 := next hb6 h12.below
          clear h12 x11 f11 g11
          obtain ⟨wd, hwd⟩ : ∃ x, x = w12.drew := ⟨_, rfl⟩
          have u0 : (convert 22 9 (.slice X3 n3 d3)).run Try.prog wd = .ok (.string ⟨T.toArray⟩) wd := by rw [hwd]; exact u8_str (x3.drewN 1) d3
          have u1 : (convert 22 9 (.slice X8 n8 d8)).run Try.prog wd = .ok (.string ⟨T.toArray⟩) wd := by rw [hwd]; exact u8_str (x8.drewN 1) d8
          have u2 : (convert 22 9 (.slice X10 n10 d10)).run Try.prog wd = .ok (.string ⟨D.toArray⟩) wd := by rw [hwd]; exact u8_str (x10.drewN 1) d10
          have u3 : (convert 22 9 (.slice A4 (32 - 16) (c0 - 16))).run Try.prog wd = .ok (.string ⟨D.toArray⟩) wd := by rw [hwd]; exact u8_str ((s2.below hb6).drewN 1) (c0 - 16)
          have u4 : (convert 22 9 (.slice X12 n12 d12)).run Try.prog wd = .ok (.string ⟨D.toArray⟩) wd := by rw [hwd]; exact u8_str (x12.drewN 1) d12
          have hbd : Below w.heap.size w wd := by rw [hwd]; exact hb6.drew
          have HWD := Lib.hid hwd
          clear x3 x8 x10 x12 s2 hwd hb6
          go_wp2_with fail
          refine wp_region_still_tail 38 (by kernel_rfl) (by kernel_rfl) ?_
          simp only [List.take_succ_cons, List.take_zero, List.drop_succ_cons, List.drop_zero]
          change wpStill _ _ w12.drew _ _ _
          rw [← HWD.out]
          iterate 25 still_step
          refine wpStill_slice_from (by kernel_rfl) 22 _ _ rfl 5 Try.underlying22 u8_size A0 32 c0 16 .i64 _ rfl rfl rfl (by omega) p0 z0 A4 HA4.out ?_
          iterate 7 still_step
          refine wpStill_slice_from (by kernel_rfl) 22 _ _ rfl 5 Try.underlying22 u8_size A0 32 c0 16 .i64 _ rfl rfl rfl (by omega) p0 z0 A4 HA4.out ?_
          repeat still_step
          refine wpStill_nil ?_
          go_wp2_with fail
          rw [← HWD.out]
          refine (awake6_any _).mono ?_
          rintro e w13 ⟨rfl, hb13⟩
          go_wp2
          go_ret
          exact ⟨rfl, next hbd hb13⟩
    · have hq0 : ((n0 : Int) != 32) = true := by simp; have := HN0.out; omega
      have HR : Hid (tagR l0 l1 = []) := by unfold Hid tagR; rw [if_neg h32]
      have HE : Hid (tagE l0 = 1) := by unfold Hid tagE; rw [if_neg h32]
      rw [HR.out] at k3
      rw [HE.out]
      have hk3 : n3 = 0 := k3
      subst hk3
      clear h32 k3 x3
      go_wp2_with fail
      refine (awake6_any _).mono ?_
      rintro e w5 ⟨rfl, hb5⟩
      go_wp2
      go_ret
      exact ⟨rfl, next hb3 hb5⟩
  · have q1 : (4000 : Int) < (n1 : Int) := by omega
    go_enter Try.func5, Try.ntmps5
    go_wp2_with (refine wpList_box_agg rfl 36 _ rfl (cb l2) rfl ?_; rw [← HW0.out])
    refine (awake6_any _).mono ?_
    rintro e w5 ⟨rfl, hb5⟩
    go_wp2
    go_ret
    exact ⟨rfl, next hbt hb5⟩

end Go.Proofs.Ytckbogdgiieddaa
