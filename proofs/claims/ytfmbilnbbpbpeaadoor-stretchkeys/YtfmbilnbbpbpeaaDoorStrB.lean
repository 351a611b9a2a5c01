/- Key of package stretch. -/
import Derived.Test.YtfmbilnbbpbpeaaDoorStrA
namespace Go.Proofs.YtfmbilnbbpbpeaaDoor
open Go.RowKit
set_option linter.unusedVariables false
set_option linter.unusedSimpArgs false

theorem add_none (a : Addr) : a.add 0 = a := by simp [Addr.add]
theorem sl_take {w : World} {B n h : Nat} {A : Option Addr} {xs : List Value} (hs : Sl w B A n xs) (hn : h ≤ n) : Sl w B A h (xs.take h) := by
  refine ⟨by rw [List.length_take, hs.1]; omega, fun h0 => ?_⟩
  obtain ⟨ad, e, hb, hcell⟩ := hs.2 (by omega)
  refine ⟨ad, e, hb, fun j u hu => hcell j u ?_⟩
  rcases Nat.lt_or_ge j h with hj | hj
  · rwa [List.getElem?_take_of_lt hj] at hu
  · rw [List.getElem?_eq_none (by rw [List.length_take]; omega)] at hu; cases hu
/-- 's[:h:m]'. -/
theorem run_slice_hm {P : Program} (w : World) (t e : TypeId) (ht : P.underlying t = some (.slice e)) (he : (P.info? e).map (·.size) = some 1) (A : Option Addr) (n c h m : Nat) (kh km : IntKind) (H M : Int) (eH : H = h) (eM : M = m) (h1 : h ≤ m) (h2 : m ≤ c) :
    (Instr.slice t (.slice A n c) none (some (.int kh H)) (some (.int km M))).run P w = .ok (.slice A h m) w := by
  subst eH; subst eM
  cases hq : P.info? e with
  | none => simp [hq] at he
  | some i =>
    have hs : i.size = 1 := by simpa [hq] using he
    rcases A with _ | a <;> simp [Instr.slice, run_underlying ht, Instr.sliceBounds, run_sliceBound, sizeOf, typeInfo, hq, hs, h1, h2, add_none]
/-- 's[:h]'. -/
theorem run_slice_h {P : Program} (w : World) (t e : TypeId) (ht : P.underlying t = some (.slice e)) (he : (P.info? e).map (·.size) = some 1) (A : Option Addr) (n c h : Nat) (kh : IntKind) (H : Int) (eH : H = h) (h1 : h ≤ c) :
    (Instr.slice t (.slice A n c) none (some (.int kh H)) none).run P w = .ok (.slice A h c) w := by
  subst eH
  cases hq : P.info? e with
  | none => simp [hq] at he
  | some i =>
    have hs : i.size = 1 := by simpa [hq] using he
    rcases A with _ | a <;> simp [Instr.slice, run_underlying ht, Instr.sliceBounds, run_sliceBound, sizeOf, typeInfo, hq, hs, h1, add_none]
theorem wpList_slice_hm {P : Program} {ops : Array Oper} {rest : List Oper} {o : Oper} {a : Act} {w : World} {Q : Exit → Act → World → Prop} (hgd : o.guard = none) (t : TypeId) (x hi mx : Operand) (ho : o.op = .slice t x none (some hi) (some mx))
    (e : TypeId) (ht : P.underlying t = some (.slice e)) (he : (P.info? e).map (·.size) = some 1) (A : Option Addr) (n c h m : Nat) (kh km : IntKind) (H M : Int) (hx : a.eval x = .slice A n c) (hhi : a.eval hi = .int kh H) (hmx : a.eval mx = .int km M) (eH : H = h) (eM : M = m) (h1 : h ≤ m) (h2 : m ≤ c)
    (hk : wpList P ops Q rest (a.put o.dst (.slice A h m)) w) : wpList P ops Q (o :: rest) a w := by
  refine wpList_plain hgd fun K hK => ?_
  have hr := run_slice_hm (P := P) w t e ht he A n c h m kh km H M eH eM h1 h2
  unfold Oper.wp execOp
  simp only [ho, Option.map_some, Option.map_none, hx, hhi, hmx, Instr.sliceAt, Sem.run_bind, run_underlying ht, Result.andThen_ok, hr]
  exact hK _ _ hk
theorem wpList_slice_h {P : Program} {ops : Array Oper} {rest : List Oper} {o : Oper} {a : Act} {w : World} {Q : Exit → Act → World → Prop} (hgd : o.guard = none) (t : TypeId) (x hi : Operand) (ho : o.op = .slice t x none (some hi) none)
    (e : TypeId) (ht : P.underlying t = some (.slice e)) (he : (P.info? e).map (·.size) = some 1) (A : Option Addr) (n c h : Nat) (kh : IntKind) (H : Int) (hx : a.eval x = .slice A n c) (hhi : a.eval hi = .int kh H) (eH : H = h) (h1 : h ≤ c)
    (hk : wpList P ops Q rest (a.put o.dst (.slice A h c)) w) : wpList P ops Q (o :: rest) a w := by
  refine wpList_plain hgd fun K hK => ?_
  have hr := run_slice_h (P := P) w t e ht he A n c h kh H eH h1
  unfold Oper.wp execOp
  simp only [ho, Option.map_some, Option.map_none, hx, hhi, Instr.sliceAt, Sem.run_bind, run_underlying ht, Result.andThen_ok, hr]
  exact hK _ _ hk

/-- May these be, and why not. -/
def keyE (r n : Int) : Int := if 1 ≤ r ∧ r ≤ 4096 then (if 0 ≤ n ∧ n ≤ 256 then 0 else 2) else 6
def keyL (pass salt : List UInt8) (r n : Int) : List UInt8 := if keyE r n = 0 then pbk pass salt r.toNat n.toNat else []
theorem keyE_r {r n : Int} (h : ¬ (1 ≤ r ∧ r ≤ 4096)) : keyE r n = 6 := by unfold keyE; rw [if_neg h]
theorem keyE_n {r n : Int} (h : 1 ≤ r ∧ r ≤ 4096) (h' : ¬ (0 ≤ n ∧ n ≤ 256)) : keyE r n = 2 := by unfold keyE; rw [if_pos h, if_neg h']
theorem keyE_ok {r n : Int} (h : 1 ≤ r ∧ r ≤ 4096) (h' : 0 ≤ n ∧ n ≤ 256) : keyE r n = 0 := by unfold keyE; rw [if_pos h, if_pos h']
theorem keyL_ok {pass salt : List UInt8} {r n : Nat} (h : keyE r n = 0) : keyL pass salt r n = pbk pass salt r n := by unfold keyL; rw [if_pos h, Int.toNat_natCast, Int.toNat_natCast]
theorem keyL_no {pass salt : List UInt8} {r n : Int} (h : keyE r n ≠ 0) : keyL pass salt r n = [] := by unfold keyL; rw [if_neg h]
/-- Bytes in new memory and an error. -/
structure NewSl (w : World) (n : Nat) (l : List UInt8) (A : Option Addr) (c : Nat) (w' : World) : Prop where
  sl : Sl w' w'.heap.size A n (cb l)
  len : n = l.length
  cap : n ≤ c
  none_ : A = none → c = 0
  new : ∀ ad, A = some ad → w.heap.size ≤ ad.block
  below : Below w.heap.size w w'
def RetSl (w : World) (l : List UInt8) (err : Int) (e : Ending) (w' : World) : Prop := ∃ A n c, e = .returned (.tuple #[.slice A n c, .int .i64 err]) ∧ NewSl w n l A c w'
theorem newSl_nil (w : World) : NewSl w 0 [] none 0 w := ⟨Sl.nil_, rfl, Nat.le_refl _, fun _ => rfl, (fun _ h => by cases h), Below.refl _ _⟩
theorem retSl {w w' : World} {n : Nat} {l l' : List UInt8} {A : Option Addr} {c : Nat} {err err' : Int} (hl : l' = l) (he : err' = err) (h : NewSl w n l' A c w') : RetSl w l err (.returned (.tuple #[.slice A n c, .int .i64 err'])) w' := by
  subst hl; subst he
  exact ⟨A, n, c, rfl, h⟩
theorem own_new {w w' : World} {base : Nat} {e : TypeId} {A : Option Addr} {n c : Nat} {xs : List Value} (h : w.ownsRow base e 1 (.slice A n c) n xs) : ∀ ad, A = some ad → base ≤ ad.block := by
  rintro ad rfl
  rcases h.2 with ⟨h, _⟩ | ⟨g, cap, cur, hv, hb, _⟩
  · injection h with h; cases h
  · injection hv with h1
    injection h1 with h1
    subst h1
    exact hb

theorem own_blk {w : World} {base j : Nat} {e : TypeId} {v : Value} {n : Nat} {xs : List Value} (h : w.ownsRow base e 1 v n xs) (hj : v.ownBlock = some j) : base ≤ j := by
  rcases h.2 with ⟨rfl, _⟩ | ⟨g, cap, cur, rfl, hb, _⟩
  · cases hj
  · injection hj with hj; rw [← hj]; exact hb

theorem sblock_of (gk : Nat) (key salt : List UInt8) (r k : Nat) (w : World) (B : Nat) (A : Option Addr) (n c : Nat) (hk : Ky w gk key) (h : Sl w B A n (cb salt)) (hc : n ≤ c) (hA : A = none → c = 0) (hB : B ≤ w.heap.size) (hT : Tabs w) (hn : n ≤ 1000000) (hr : 1 ≤ r) (hr' : r ≤ 4096) (z : Int) (hz : z = ((k + 1 : Nat) : Int)) :
    Calls Tryd.prog 15 #[.pointer (some ⟨gk, 0, none⟩), .slice A n c, .int .i64 (r : Int), .int .u32 z] w fun e w' => e = .returned (.agg (cb (tm key (sblk salt k) (r - 1))).toArray) ∧ Below w.heap.size w w' := by
  subst hz
  obtain ⟨r, rfl⟩ : ∃ m, r = m + 1 := ⟨r - 1, by omega⟩
  exact sblock_any gk key salt r (k + 1) w B A n c hk h hc hA hB hT hn (by omega)

theorem key_bad (pass salt : List UInt8) (r n : Int) (w : World) (A A' : Option Addr) (m c m' c' : Nat) (h : keyE r n ≠ 0) :
    Calls Tryd.prog 9 #[.slice A m c, .slice A' m' c', .int .i64 r, .int .i64 n] w (RetSl w (keyL pass salt r n) (keyE r n)) := by
  have HL := Lib.hid (keyL_no (pass := pass) (salt := salt) h)
  by_cases hr : 1 ≤ r ∧ r ≤ 4096
  · have hn : ¬ (0 ≤ n ∧ n ≤ 256) := fun h' => h (keyE_ok hr h')
    have HE := Lib.hid (keyE_n hr hn)
    have hq1 : decide (r < 1) = false := by simp; omega
    have hq2 : decide (4096 < r) = false := by simp; omega
    rcases (show n < 0 ∨ (¬ n < 0 ∧ 256 < n) by omega) with h1 | ⟨h1, h2⟩
    · have hq3 : decide (n < 0) = true := by simp; omega
      clear h hr hn
      go_enter Tryd.func9, Tryd.ntmps9
      go_wp2
      go_ret2
      exact retSl HL.out.symm HE.out.symm (newSl_nil w)
    · have hq3 : decide (n < 0) = false := by simp; omega
      have hq4 : decide (256 < n) = true := by simp; omega
      clear h hr hn
      go_enter Tryd.func9, Tryd.ntmps9
      go_wp2
      go_ret2
      exact retSl HL.out.symm HE.out.symm (newSl_nil w)
  · have HE := Lib.hid (keyE_r (n := n) hr)
    rcases (show r < 1 ∨ (¬ r < 1 ∧ 4096 < r) by omega) with h1 | ⟨h1, h2⟩
    · have hq3 : decide (r < 1) = true := by simp; omega
      clear h hr
      go_enter Tryd.func9, Tryd.ntmps9
      go_wp2
      go_ret2
      exact retSl HL.out.symm HE.out.symm (newSl_nil w)
    · have hq3 : decide (r < 1) = false := by simp; omega
      have hq4 : decide (4096 < r) = true := by simp; omega
      clear h hr
      go_enter Tryd.func9, Tryd.ntmps9
      go_wp2
      go_ret2
      exact retSl HL.out.symm HE.out.symm (newSl_nil w)

set_option maxRecDepth 100000 in
set_option maxHeartbeats 1000000 in
theorem key_ok (pass salt : List UInt8) (r n : Nat) (w : World) (B : Nat) (A A' : Option Addr) (m c m' c' : Nat) (h : Sl w B A m (cb pass)) (hc : m ≤ c) (hA : A = none → c = 0) (hm : m ≤ 100000000) (h' : Sl w B A' m' (cb salt)) (hc' : m' ≤ c') (hA' : A' = none → c' = 0) (hm' : m' ≤ 1000000) (hB : B ≤ w.heap.size) (hT : Tabs w)
    (hr : 1 ≤ r) (hr' : r ≤ 4096) (hn : n ≤ 256) :
    Calls Tryd.prog 9 #[.slice A m c, .slice A' m' c', .int .i64 (r : Int), .int .i64 (n : Int)] w (RetSl w (pbk pass salt r n) 0) := by
  obtain ⟨i0, hi, hz0, hz1, hz2⟩ := info_parts u8_info
  have HT := Lib.hid hT
  clear hT
  have HPL := Lib.hid (pbk_len pass salt r n)
  obtain ⟨M, hM⟩ : ∃ M, M = (n + 31) / 32 := ⟨_, rfl⟩
  have hMn : n ≤ 32 * M := by omega
  have hM8 : M ≤ 8 := by omega
  have HPK : Hid (pbk pass salt r n = (pbs pass salt r M).take n) := by unfold Hid; rw [hM]; rfl
  have hq1 : decide ((r : Int) < 1) = false := by simp; omega
  have hq2 : decide ((4096 : Int) < (r : Int)) = false := by simp; omega
  have hq3 : decide ((n : Int) < 0) = false := by simp
  have hq4 : decide ((256 : Int) < (n : Int)) = false := by simp; omega
  have hqM : ((n : Int) + 32 - 1) / 32 = (M : Int) := by omega
  have hqT : ((n : Int) + 32 - 1).tdiv 32 = (M : Int) := by rw [Int.tdiv_eq_ediv_of_nonneg (by omega)]; exact hqM
  have HM := Lib.hid hM
  clear hM
  go_enter Tryd.func9, Tryd.ntmps9
  go_wp2_with fail
  refine (mnew_any pass _ _ _ _ _ h hc hA hB (HT.out) hm).mono ?_
  rintro e w1 ⟨gk, rfl, hgk, hky, hb1⟩
  have y1 := (h'.up hB).below hb1
  clear h
  go_wp2_with (at_make; refine wpList_make_part _ rfl _ _ 22 rfl w1.heap.size 5 i0 .u8 Tryd.underlying22 hi hz0 hz1 .i64 .i64 _ _ 0 (32 * M) rfl rfl (by omega) (by omega) (by omega) (by rw [hz2]; omega) (by unfold maxLen; omega) (Nat.le_refl _) ?_; intro w2 hown hgrow)
  have hb2 : Below w1.heap.size w1 w2 := (Below.refl _ w1).grown hgrow (Nat.le_refl _) (by simp)
  have hwz := hb1.size
  clear hgrow
  go_loopw [12, 37] (fun v i wr => ∃ k : Nat, k ≤ M ∧ i = .int .i64 k ∧ wr.ownsRow w1.heap.size 5 1 v (32 * k) (cb (pbs pass salt r k)) ∧ Below w1.heap.size w1 wr) (fun _ i _ => M - (intOf i).toNat)
  case atStart => exact ⟨0, by omega, rfl, hown, hb2⟩
  case round =>
    clear hown hb2
    obtain ⟨k, hk, rfl, hown, hb⟩ := hrel
    obtain ⟨Av, cv, rfl⟩ := own_form hown
    by_cases hlt : k < M
    · have hbw := hb1.trans (hb.mono hwz)
      have hbz := hb.size
      obtain ⟨T, hT⟩ : ∃ T, T = tm pass (sblk salt k) (r - 1) := ⟨_, rfl⟩
      have HTL : Hid (T.length = 32) := by unfold Hid; rw [hT, tm_len]
      have HN : Hid (pbs pass salt r (k + 1) = pbs pass salt r k ++ T) := by unfold Hid; rw [hT]; rfl
      have HTT := Lib.hid hT
      clear hT
      go_wp2_with fail
      refine (sblock_of gk pass salt r k _ _ _ _ _ (hky.next hb) (y1.below (hb.mono hwz)) hc' hA' (by omega) (HT.out.next hbw) hm' hr hr' _ (by first | rfl | omega)).mono ?_
      rintro e w3 ⟨rfl, hb3⟩
      rw [← HTT.out]
      have hown3 := own_below hown hb3
      have hbw3 := hb.trans (hb3.mono hbz)
      obtain ⟨bt, hb4, hz4⟩ := put_new w3 (zeros .u8 32) (cb T) 38 (by rw [cb_len, HTL.out, zeros_len])
      obtain ⟨W4, hW4⟩ : ∃ W, W = (w3.alloc (.cells (zeros .u8 32).toArray 38)).setCells w3.heap.size 0 (cb T) := ⟨_, rfl⟩
      rw [← hW4] at bt hb4 hz4
      have hown4 := own_below hown3 hb4
      have hbw4 := hbw3.trans (hb4.mono hbw3.size)
      have hbs4 := hbw4.size
      have hsl : Sl W4 (w3.heap.size + 1) (some ⟨w3.heap.size, 0, none⟩) 32 (cb T) := bt.sl (o := 0) (n := 32) (by rw [List.drop_zero, List.take_of_length_le (by rw [cb_len, HTL.out]; omega)]) (by rw [cb_len, HTL.out]; omega)
      have HW4 := Lib.hid hW4
      have HO4 := Lib.hid hown4
      have HSL := Lib.hid hsl
      clear hW4 hown hb hbw hb3 hown3 hbw3 bt hb4 hz4 hown4 hsl
      go_wp2_with (first
        | (refine wpList_alloc_zero rfl 38 rfl (zeros .u8 32) zero_32 ?_)
        | (refine wpList_store_mid rfl 38 _ _ rfl _ _ (cb T).toArray rfl rfl (Bl.there_ (Bl.new _ (zeros .u8 32) 38) (by simp [zeros, cb_len, HTL.out])) (by rw [size_32, List.size_toArray, cb_len, HTL.out]) (all_oneCell_toArray (cb_one _)) ?_; change wpList _ _ _ _ _ (World.setCells (w3.alloc (.cells (zeros .u8 32).toArray 38)) w3.heap.size 0 (cb T)); rw [← HW4.out])
        | (at_builtin; refine wpList_append_sl _ rfl _ _ 22 rfl w1.heap.size 5 i0 (.int .u8 0) 1 Tryd.underlying22 hi hz0 hz1 hz2 rfl _ (32 * k) _ rfl HO4.out (w3.heap.size + 1) (some ⟨w3.heap.size, 0, none⟩) 32 32 (cb T) rfl HSL.out (by intro h; cases h) (cb_one _) (by unfold maxLen; omega) (by omega) hbs4 ?_; intro v' w5 hown5 hgrow5 hat5))
      have hb5 : Below w1.heap.size w1 w5 := hbw4.grown hgrow5 hbs4 (fun j e => own_blk HO4.out e)
      have HO5 := Lib.hid hown5
      clear hgrow5 hat5 hown5
      go_wp2
      go_roundw
      case rel => exact ⟨k + 1, by omega, by go_num, by rw [HN.out, cb_append]; exact HO5.out, hb5⟩
      case measure => simp [intOf]; omega
    · have HK : Hid (k = M) := (by omega : k = M)
      rw [HK.out] at hown
      have hcap := own_cap hown
      have hkM : k = M := HK.out
      have hs1 := sl_take (Sl.own hown) hMn
      have hnw := own_new (w' := wr) hown
      have hA2 := own_none hown
      rw [show (cb (pbs pass salt r M)).take n = cb ((pbs pass salt r M).take n) by simp [cb], ← HPK.out] at hs1
      clear hown
      go_wp2_with (refine wpList_slice_hm rfl 22 _ _ _ rfl 5 Tryd.underlying22 u8_size Av _ cv n n .i64 .i64 _ _ rfl rfl rfl rfl rfl (Nat.le_refl _) (by omega) ?_)
      go_ret2
      refine retSl rfl rfl ⟨hs1, HPL.out.symm, Nat.le_refl _, ?_, fun ad e => Nat.le_trans hwz (hnw ad e), hb1.trans (hb.mono hwz)⟩
      intro hno
      have := hA2 hno
      omega

theorem key_any (pass salt : List UInt8) (r n : Int) (w : World) (B : Nat) (A A' : Option Addr) (m c m' c' : Nat) (h : Sl w B A m (cb pass)) (hc : m ≤ c) (hA : A = none → c = 0) (hm : m ≤ 100000000) (h' : Sl w B A' m' (cb salt)) (hc' : m' ≤ c') (hA' : A' = none → c' = 0) (hm' : m' ≤ 1000000) (hB : B ≤ w.heap.size) (hT : Tabs w) :
    Calls Tryd.prog 9 #[.slice A m c, .slice A' m' c', .int .i64 r, .int .i64 n] w (RetSl w (keyL pass salt r n) (keyE r n)) := by
  by_cases he : keyE r n = 0
  · have hr : 1 ≤ r ∧ r ≤ 4096 := by
      by_cases hr : 1 ≤ r ∧ r ≤ 4096
      · exact hr
      · rw [keyE_r hr] at he; cases he
    have hn : 0 ≤ n ∧ n ≤ 256 := by
      by_cases hn : 0 ≤ n ∧ n ≤ 256
      · exact hn
      · rw [keyE_n hr hn] at he; cases he
    obtain ⟨r, rfl⟩ := Int.eq_ofNat_of_zero_le (show 0 ≤ r by omega)
    obtain ⟨n, rfl⟩ := Int.eq_ofNat_of_zero_le hn.1
    rw [he, keyL_ok he]
    exact key_ok pass salt r n w B A A' m c m' c' h hc hA hm h' hc' hA' hm' hB hT (by omega) (by omega) (by omega)
  · exact key_bad pass salt r n w A A' m c m' c' he

end Go.Proofs.YtfmbilnbbpbpeaaDoor

