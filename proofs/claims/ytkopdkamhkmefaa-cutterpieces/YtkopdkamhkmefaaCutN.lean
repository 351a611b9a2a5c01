/- Package cutter: Right, New, Open; a Cutter in memory; a Cutter that is not there. -/
import Derived.Test.YtkopdkamhkmefaaCutX
import Derived.Test.YtkopdkamhkmefaaCutK
import Derived.Test.YtkopdkamhkmefaaRolD
import Derived.Deep.CutRange
namespace Go.Proofs.Ytkopdkamhkmefaa
set_option maxRecDepth 100000
open Go Go.RowKit
set_option linter.unusedVariables false
set_option linter.unusedSimpArgs false

theorem cright_any (p k : Nat) (mn mx : Int) (w : World) (hp : p < 18446744073709551616) :
    Calls Try.prog 11 #[.agg (cutC p k mn mx).toArray] w fun e w' => e = .returned (.bool (cutOk p mn mx)) ∧ Below w.heap.size w w' := by
  obtain ⟨W0, HW0, b0, hb0, hsz0⟩ := put_f w (cutC p k mn mx) 24
  have HD := Lib.hid (degree_any p W0 hp)
  have HC : Hid (cutOk p mn mx = (decide (10 ≤ nb2 p) && decide (nb2 p ≤ 54) && decide (1 ≤ mn) && decide (mn ≤ mx) && decide (mx ≤ 4096))) := rfl
  obtain ⟨n, hn⟩ : ∃ n, n = nb2 p := ⟨_, rfl⟩
  rw [← hn] at HD HC
  rw [HC.out]
  have c0 : W0.cell? ⟨w.heap.size, 0, none⟩ = some (.int .u64 (p : Int)) := b0.cell 0
  have c2 : W0.cell? ⟨w.heap.size, 2, none⟩ = some (.int .i64 mn) := b0.cell 2
  have c3 : W0.cell? ⟨w.heap.size, 3, none⟩ = some (.int .i64 mx) := b0.cell 3
  clear hn HC hsz0
  go_enter Try.func11, Try.ntmps11
  go_wp2_with (first
    | (refine wpList_box_agg rfl 24 _ rfl (cutC p k mn mx) rfl ?_; rw [HW0.out])
    | (go_at_call 20; refine HD.out.mono ?_; rintro e w1 ⟨rfl, rfl⟩)
    | fail)
  all_goals go_ret
  all_goals refine ⟨ret_bool ?_, hb0⟩
  all_goals first | (simp [*]; done) | (simp_all; done) | (simp_all; omega) | (simp only [← Bool.decide_and, decide_eq_decide]; omega) | omega

/-- A struct built, in a region that stands still. -/
theorem wpStill_build {P : Program} {ops : Array Oper} {w : World} {Q : Act → Prop} {a : Act} {o : Oper} {rest : List Oper} (hgd : o.guard = none) (ty : TypeId) (parts : Array (Nat × Operand)) (ho : o.op = .build ty parts)
    (cells : List Value) (hb : P.built ty (parts.toList.map fun p => (p.1, a.eval p.2)) = some cells.toArray) (h : wpStill P ops w Q rest (a.put o.dst (.agg cells.toArray))) : wpStill P ops w Q (o :: rest) a := by
  have hw : Region.wanted o (yielded ops a.tmps) = true := by simp [Region.wanted, hgd]
  unfold wpStill
  rw [if_pos hw]
  unfold Oper.still
  rw [exec_build ty parts ho cells hb w]
  simp only [Oper.stillUpon_value]
  exact h

/-- A Cutter in memory: g its block, own all that it turns; o the bytes of the chunk that has not ended. -/
structure Ck (w : World) (own : List Nat) (g p d k mn mx : Nat) (o : List UInt8) : Prop where
  bl : own = [g] ∧ Bl w g (ckc p k mn mx d (winW o) (fpr p d o) o.length) 58
  deg : Deg p d
  le : d ≤ 53
  no : NoEnd p d k mn mx o
  mx1 : 1 ≤ mx
  mx2 : mx ≤ 4096
  mnx : mn ≤ mx
  hk : k < 18446744073709551616
theorem Ck.lt {w : World} {own : List Nat} {g p d k mn mx : Nat} {o : List UInt8} (h : Ck w own g p d k mn mx o) : ∀ j, j ∈ own → j < w.heap.size := by /- 58 -/
  obtain ⟨rfl, hb⟩ := h.bl
  intro j hj
  simp only [List.mem_cons, List.not_mem_nil, or_false] at hj
  subst hj
  exact hb.lt
theorem Ck.next {w w' : World} {own : List Nat} {g p d k mn mx : Nat} {o : List UInt8} (h : Ck w own g p d k mn mx o) (hb : Below w.heap.size w w') : Ck w' own g p d k mn mx o := by /- 58 -/
  obtain ⟨e, hb1⟩ := h.bl
  exact ⟨⟨e, hb1.next hb⟩, h.deg, h.le, h.no, h.mx1, h.mx2, h.mnx, h.hk⟩

theorem cnew_bad (p k : Nat) (mn mx : Int) (w : World) (hp : p < 18446744073709551616) (h : cutOk p mn mx = false) :
    Calls Try.prog 17 #[.agg (cutC p k mn mx).toArray] w fun e w' => e = .returned (.tuple #[.pointer none, .int .i64 6]) ∧ Below w.heap.size w w' := by
  obtain ⟨W0, HW0, b0, hb0, hsz0⟩ := put_f w (cutC p k mn mx) 24
  have HR := Lib.hid (cright_any p k mn mx W0 hp)
  rw [h] at HR
  clear h
  go_enter Try.func17, Try.ntmps17
  go_wp2_with (first
    | (refine wpList_box_agg rfl 24 _ rfl (cutC p k mn mx) rfl ?_; rw [HW0.out])
    | (refine wpList_load_mid rfl 24 _ rfl w.heap.size 0 rfl (cutC p k mn mx) _ b0.whole Try.underlying24 rfl size_cut ?_)
    | (go_at_call 11; refine HR.out.mono ?_; rintro e w1 ⟨rfl, hb1⟩)
    | fail)
  go_ret2
  exact ⟨rfl, next hb0 hb1⟩

theorem built_ck (p k mn mx m G : Int) : Try.prog.built 58 [(0, .agg #[.int .u64 p, .int .u64 k, .int .i64 mn, .int .i64 mx]), (1, .agg (rl0 m G).toArray)] = some (.int .u64 p :: .int .u64 k :: .int .i64 mn :: .int .i64 mx :: (rl0 m G ++ [.int .i64 0]) : List Value).toArray := by kernel_rfl

set_option maxHeartbeats 1000000 in
theorem cnew_ok (p k mn mx d : Nat) (w : World) (hp : p < 18446744073709551616) (hk : k < 18446744073709551616) (hd : Deg p d) (h : cutOk p (mn : Int) (mx : Int) = true) :
    Calls Try.prog 17 #[.agg (cutC p k (mn : Int) (mx : Int)).toArray] w fun e w' => ∃ g own, e = .returned (.tuple #[.pointer (some ⟨g, 0, none⟩), .int .i64 0]) ∧ (∀ j, j ∈ own → w.heap.size ≤ j) ∧ Ck w' own g p d k mn mx [] ∧ Below w.heap.size w w' := by
  obtain ⟨W0, HW0, b0, hb0, hsz0⟩ := put_f w (cutC p k (mn : Int) (mx : Int)) 24
  have HR := Lib.hid (cright_any p k (mn : Int) (mx : Int) W0 hp)
  rw [h] at HR
  obtain ⟨k0, k1, k2, k3⟩ := cutOk_of h
  have HK := Lib.hid k0
  have HD := Lib.hid hd
  clear h k0 hd
  go_enter Try.func17, Try.ntmps17
  go_wp2_with (first
    | (refine wpList_box_agg rfl 24 _ rfl (cutC p k (mn : Int) (mx : Int)) rfl ?_; rw [HW0.out])
    | (refine wpList_load_mid rfl 24 _ rfl w.heap.size 0 rfl (cutC p k (mn : Int) (mx : Int)) _ b0.whole Try.underlying24 rfl size_cut ?_)
    | fail)
  refine HR.out.mono ?_
  rintro e w1 ⟨rfl, hb1⟩
  have b1 := b0.next hb1
  have hbw := next hb0 hb1
  have c0 : w1.cell? ⟨w.heap.size, 0, none⟩ = some (.int .u64 (p : Int)) := b1.cell 0
  clear hb1 b0 hb0 HR
  go_wp2_with fail
  refine (rolnew_ok p d w1 HK.out HD.out hp).mono ?_
  rintro e w2 ⟨gr, rfl, hgr, hr, hb2⟩
  have h53 := hr.le
  have b2 := (b1.next hb2).drew
  have hb3 := (next hbw hb2).drew
  have hgrl := hr.lt
  have hrb := hr.bl.drew
  rw [← rlc_new, ← rl0_eq] at hrb
  obtain ⟨G, hG⟩ : ∃ G, G = pr p d (2 ^ 128) := ⟨_, rfl⟩
  rw [← hG] at hrb
  have HG := Lib.hid hG
  obtain ⟨C, hC⟩ : ∃ C, C = rl0 (p : Int) (G : Int) := ⟨_, rfl⟩
  have hCl : C.length = 19 := by rw [hC, rl0_len]
  have HBU := Lib.hid (built_ck (p : Int) (k : Int) (mn : Int) (mx : Int) (p : Int) (G : Int))
  rw [← hC] at hrb HBU
  have hrw := hrb.whole
  have HC := Lib.hid hC
  have b2w := b2.whole
  clear c0 hb2 hr hG hC b1 hrb
  go_wp2
  go_still_tail 5, (by kernel_rfl)
  refine wpStill_load_mid rfl 24 _ rfl w.heap.size 0 rfl (cutC p k (mn : Int) (mx : Int)) _ b2w Try.underlying24 rfl size_cut ?_
  still_step
  still_step
  refine wpStill_load_mid rfl 56 _ rfl gr 0 rfl C _ hrw Try.underlying56 rfl (by rw [size_roll, hCl]) ?_
  refine wpStill_build rfl 58 _ rfl (Value.int .u64 (p : Int) :: Value.int .u64 (k : Int) :: Value.int .i64 (mn : Int) :: Value.int .i64 (mx : Int) :: (C ++ [Value.int .i64 0])) (by exact HBU.out) ?_
  refine wpStill_nil ?_
  refine wpList_box_agg rfl 58 _ rfl _ rfl ?_
  have eC : (.int .u64 (p : Int) :: .int .u64 (k : Int) :: .int .i64 (mn : Int) :: .int .i64 (mx : Int) :: (C ++ [.int .i64 0]) : List Value) = ckc p k mn mx d (winW []) (fpr p d []) 0 := by
    unfold ckc
    rw [← rlc_new, ← rl0_eq, ← HG.out, ← HC.out]
    rfl
  rw [eC]
  have hbn := Bl.new w2.drew (ckc p k mn mx d (winW []) (fpr p d []) 0) 58
  have hal : Below w2.drew.heap.size w2.drew (w2.drew.alloc (.cells (ckc p k mn mx d (winW []) (fpr p d []) 0).toArray 58)) := (Below.refl _ w2.drew).alloc (Nat.le_refl _) _
  obtain ⟨W3, hW3⟩ : ∃ W, W = w2.drew.alloc (.cells (ckc p k mn mx d (winW []) (fpr p d []) 0).toArray 58) := ⟨_, rfl⟩
  change wpList _ _ _ _ _ (w2.drew.alloc (.cells (ckc p k mn mx d (winW []) (fpr p d []) 0).toArray 58))
  rw [← hW3] at hbn hal ⊢
  have hsz : w.heap.size ≤ w2.drew.heap.size := hb3.size
  have hbb := next hb3 hal
  clear hW3 hal eC hrw b2w HBU
  go_wp2
  go_ret2
  refine ⟨w2.drew.heap.size, [w2.drew.heap.size], rfl, ?_, ⟨⟨rfl, hbn⟩, HD.out, h53, NoEnd.nil, by omega, by omega, by omega, hk⟩, hbb⟩
  intro j hj
  simp only [List.mem_cons, List.not_mem_nil, or_false] at hj
  subst hj
  exact hsz

theorem copen_any (g p d k mn mx : Nat) (own : List Nat) (o : List UInt8) (w : World) (h : Ck w own g p d k mn mx o) :
    Calls Try.prog 19 #[.pointer (some ⟨g, 0, none⟩)] w fun e w' => e = .returned (.int .i64 (o.length : Nat)) ∧ w = w' := by
  obtain ⟨_, hb⟩ := h.bl
  have hc : w.cell? ⟨g, 23, none⟩ = some (.int .i64 (o.length : Nat)) := by rw [hb.cell, ckc_o (winW_len o)]
  clear hb h
  go_enter Try.func19, Try.ntmps19
  go_wp2
  go_ret
  exact ⟨rfl, rfl⟩
theorem ncpush_any (b : Int) (w : World) : Calls Try.prog 18 #[.pointer none, .int .u8 b] w fun e w' => e = .returned (.bool false) ∧ w = w' := by
  go_enter Try.func18, Try.ntmps18
  go_wp2
  go_ret
  exact ⟨rfl, rfl⟩
theorem ncopen_any (w : World) : Calls Try.prog 19 #[.pointer none] w fun e w' => e = .returned (.int .i64 0) ∧ w = w' := by
  go_enter Try.func19, Try.ntmps19
  go_wp2
  go_ret
  exact ⟨rfl, rfl⟩

end Go.Proofs.Ytkopdkamhkmefaa
