/- block of layer 2's reference. -/
import Derived.Test.YtfmbilnbbpbpeaaDoorDigS
import Derived.StillTailTactics
namespace Go.Proofs.YtfmbilnbbpbpeaaDoor
open Go.RowKit

theorem Sl.cell0 {w : World} {B n g : Nat} {xs : List Value} (h : Sl w B (some ⟨g, 0, none⟩) n xs) {j : Nat} {u : Value} (hu : xs[j]? = some u) : w.cell? ⟨g, j, none⟩ = some u := by
  have hj := (List.getElem?_eq_some_iff.1 hu).1
  obtain ⟨ad, e, _, hc⟩ := h.2 (by have := h.1; omega)
  injection e with e
  subst e
  have := hc j u hu
  rw [Addr.add_mid, Nat.zero_add] at this
  exact this

theorem tU_ref (r : W8) (y x : Nat) (hok : r.ok) : ((r.h : Int) + bits BinOp.xor IntKind.u32 (bits BinOp.xor IntKind.u32 ((rotN r.e (rK 6) : Nat) : Int) ((rotN r.e (rK 11) : Nat) : Int)) ((rotN r.e (rK 25) : Nat) : Int) +
    bits BinOp.xor IntKind.u32 (bits BinOp.and IntKind.u32 (r.e : Int) (r.f : Int)) (bits BinOp.and IntKind.u32 (bits BinOp.xor IntKind.u32 IntKind.u32.max (r.e : Int)) (r.g : Int)) + (y : Int) + (x : Int)) % 4294967296 = ((tU r y x : Nat) : Int) := by
  obtain ⟨ha, hb, hc, hd, he, hf, hg, hh⟩ := hok
  rw [show rK 6 = 26 by decide, show rK 11 = 21 by decide, show rK 25 = 7 by decide, bs1_eq r.e he, ch_eq _ _ _ _ (by decide) he hf hg]
  unfold tU
  omega
theorem tV_ref (r : W8) (hok : r.ok) : (bits BinOp.xor IntKind.u32 (bits BinOp.xor IntKind.u32 ((rotN r.a (rK 2) : Nat) : Int) ((rotN r.a (rK 13) : Nat) : Int)) ((rotN r.a (rK 22) : Nat) : Int) +
    bits BinOp.xor IntKind.u32 (bits BinOp.xor IntKind.u32 (bits BinOp.and IntKind.u32 (r.a : Int) (r.b : Int)) (bits BinOp.and IntKind.u32 (r.a : Int) (r.c : Int))) (bits BinOp.and IntKind.u32 (r.b : Int) (r.c : Int))) % 4294967296 = ((tV r : Nat) : Int) := by
  obtain ⟨ha, hb, hc, hd, he, hf, hg, hh⟩ := hok
  rw [show rK 2 = 30 by decide, show rK 13 = 19 by decide, show rK 22 = 10 by decide, bs0_eq r.a ha, maj_eq _ _ _ ha hb hc]
  unfold tV
  omega

theorem alloc_size' (w : World) (o : Obj) : (w.alloc o).heap.size = w.heap.size + 1 := by simp
theorem wrap1 (a b : Nat) : IntKind.u32.wrap ((a : Int) + (b : Int)) = (((a + b) % 4294967296 : Nat) : Int) := by simp only [IntKind.wrap_u32]; omega
theorem plus_take (v r : W8) (j : Nat) (h : j < 8) : us ((v.plus r).list.take (j + 1)) = us ((v.plus r).list.take j) ++ [.int .u32 ((v.list.getD j 0 + r.list.getD j 0) % 4294967296 : Nat)] := by
  have hl : j < (v.plus r).list.length := h
  rw [List.take_succ_eq_append_getElem hl, us_append]
  congr 1
  have : j = 0 ∨ j = 1 ∨ j = 2 ∨ j = 3 ∨ j = 4 ∨ j = 5 ∨ j = 6 ∨ j = 7 := by omega
  rcases this with rfl | rfl | rfl | rfl | rfl | rfl | rfl | rfl <;> rfl

set_option linter.unusedSimpArgs false in
set_option maxRecDepth 100000 in
set_option maxHeartbeats 2000000 in
theorem rblock_any (v : W8) (b : List UInt8) (w : World) (B gv cv : Nat) (A : Option Addr) (c : Nat) (hv : Sl w B (some ⟨gv, 0, none⟩) 8 (us v.list)) (hok : v.ok) (h : Sl w B A 64 (cb b)) (hB : B ≤ w.heap.size) (hc : 64 ≤ c) (hA : A = none → c = 0) :
    Calls Tryd.prog 23 #[.slice (some ⟨gv, 0, none⟩) 8 cv, .slice A 64 c] w (RetRow 40 w 8 (us (blk v b).list)) := by
  obtain ⟨i0, hi, hz0, hz1, hz2⟩ := info_parts u32_info
  have HOK := Lib.hid hok
  clear hok
  go_enter Tryd.func23, Tryd.ntmps23
  go_wp2_with fail
  refine (rwords_any b _ _ A c h hB hc hA).mono ?_
  rintro e w1 ⟨A1, c1, rfl, hown1, hb1⟩
  obtain ⟨g1, c1', e1, hg1, hg1l⟩ := hown1.form (by omega)
  injection e1 with e1 _ e1c
  subst e1; subst e1c
  obtain ⟨l, el⟩ : ∃ l, l = ws b 64 := ⟨_, rfl⟩
  have hll : l.length = 64 := by rw [el, ws_len]
  have hlt := ws_lt b 64
  rw [← el] at hlt hown1
  have EL := Lib.hid el
  have HLL := Lib.hid hll
  have HLT := Lib.hid hlt
  clear el hll hlt h
  go_wp2_with fail
  refine (keys_any _).mono ?_
  rintro e w2 ⟨A2, c2, rfl, hown2, hb2⟩
  obtain ⟨g2, c2', e2, hg2, hg2l⟩ := hown2.form (by omega)
  injection e2 with e2 _ e2c
  subst e2; subst e2c
  have hown1' := own_below hown1 hb2
  have hbw := next hb1 hb2
  have hown2' := own_down hown2 hb1.size
  clear hown1 hown2 hb1 hb2
  go_wp2
  go_loopw [7, 8] (fun s i wr => ∃ (k gs cs : Nat) (r : W8), k ≤ 64 ∧ Hid (r = rnds l v k) ∧ s = .slice (some ⟨gs, 0, none⟩) 8 cs ∧ Sl wr wr.heap.size (some ⟨gs, 0, none⟩) 8 (us r.list) ∧ i = .int .i64 k
    ∧ wr.ownsRow w.heap.size 40 1 (.slice (some ⟨g1, 0, none⟩) 64 c1) 64 (us l) ∧ wr.ownsRow w.heap.size 40 1 (.slice (some ⟨g2, 0, none⟩) 64 c2) 64 (us shaK) ∧ Below w.heap.size w wr) (fun _ i _ => 64 - (intOf i).toNat)
  case atStart => exact ⟨0, gv, cv, v, by omega, (rfl : _ = _), rfl, (hv.below (hbw.mono hB)).up (by have := hbw.size; omega), rfl, hown1', hown2', hbw⟩
  case round =>
    clear hown1' hown2' hbw
    obtain ⟨k, gs, cs, r, hk, HR, rfl, hsl, rfl, hown1, hown2, hbw⟩ := hrel
    obtain ⟨ha, hb, hc', hd, he, hf, hg, hh⟩ : r.ok := by rw [HR.out]; exact rnds_ok l v HOK.out k
    by_cases hlt : k < 64
    · have ck := own_u32 hown2 shaK_len hlt
      have cw := own_u32 hown1 HLL.out hlt
      obtain ⟨x, hx⟩ : ∃ x, x = l.getD k 0 := ⟨_, rfl⟩
      obtain ⟨y, hy⟩ : ∃ y, y = shaK.getD k 0 := ⟨_, rfl⟩
      have hx2 : x < 4294967296 := by rw [hx]; exact getD_lt32 HLT.out k
      have hy2 : y < 4294967296 := by rw [hy]; exact getD_lt32 shaK_lt k
      rw [← hx] at cw
      rw [← hy] at ck
      have HX := Lib.hid hx
      have HY := Lib.hid hy
      clear hx hy
      have q0 : wr.cell? ⟨gs, 0, none⟩ = some (.int .u32 (r.a : Int)) := hsl.cell0 (j := 0) rfl
      have q1 : wr.cell? ⟨gs, 1, none⟩ = some (.int .u32 (r.b : Int)) := hsl.cell0 (j := 1) rfl
      have q2 : wr.cell? ⟨gs, 2, none⟩ = some (.int .u32 (r.c : Int)) := hsl.cell0 (j := 2) rfl
      have q3 : wr.cell? ⟨gs, 3, none⟩ = some (.int .u32 (r.d : Int)) := hsl.cell0 (j := 3) rfl
      have q4 : wr.cell? ⟨gs, 4, none⟩ = some (.int .u32 (r.e : Int)) := hsl.cell0 (j := 4) rfl
      have q5 : wr.cell? ⟨gs, 5, none⟩ = some (.int .u32 (r.f : Int)) := hsl.cell0 (j := 5) rfl
      have q6 : wr.cell? ⟨gs, 6, none⟩ = some (.int .u32 (r.g : Int)) := hsl.cell0 (j := 6) rfl
      have q7 : wr.cell? ⟨gs, 7, none⟩ = some (.int .u32 (r.h : Int)) := hsl.cell0 (j := 7) rfl
      have hi0 : (0 : Int) ≤ (k : Int) := by omega
      have hi1 : (k : Int) < 64 := by omega
      go_wp2_with fail
      go_quiet ((go_at_call 34; exact Calls.quiet_of_same (still_of (right_open r.e _ _ he (by decide) (by decide)))))
      go_wp2_with fail
      have hrok : r.ok := ⟨ha, hb, hc', hd, he, hf, hg, hh⟩
      rw [tU_ref r y x hrok]
      obtain ⟨W2, hW2⟩ : ∃ W, W = wr.drewN nq := ⟨_, rfl⟩
      rw [← hW2]
      have p1 : W2.cell? ⟨gs, 1, none⟩ = some (.int .u32 (r.b : Int)) := by rw [hW2]; exact q1
      have p2 : W2.cell? ⟨gs, 2, none⟩ = some (.int .u32 (r.c : Int)) := by rw [hW2]; exact q2
      have p3 : W2.cell? ⟨gs, 3, none⟩ = some (.int .u32 (r.d : Int)) := by rw [hW2]; exact q3
      have p5 : W2.cell? ⟨gs, 5, none⟩ = some (.int .u32 (r.f : Int)) := by rw [hW2]; exact q5
      have p6 : W2.cell? ⟨gs, 6, none⟩ = some (.int .u32 (r.g : Int)) := by rw [hW2]; exact q6
      have hown1a : W2.ownsRow w.heap.size 40 1 (.slice (some ⟨g1, 0, none⟩) 64 c1) 64 (us l) := by rw [hW2]; exact hown1
      have hown2a : W2.ownsRow w.heap.size 40 1 (.slice (some ⟨g2, 0, none⟩) 64 c2) 64 (us shaK) := by rw [hW2]; exact hown2
      have hbwa : Below w.heap.size w W2 := by rw [hW2]; exact hbw.trans (Drew.below ⟨_, rfl⟩ _)
      clear hW2 q0 q1 q2 q3 q4 q5 q6 q7 ck cw hown1 hown2 hbw hsl
      have hu := tU_lt r y x
      go_quiet ((go_at_call 34; exact Calls.quiet_of_same (still_of (right_open r.a _ _ ha (by decide) (by decide)))))
      go_wp2_with fail
      rw [tV_ref r hrok]
      obtain ⟨W3, hW3⟩ : ∃ W, W = W2.drewN nq := ⟨_, rfl⟩
      rw [← hW3]
      have o1 : W3.cell? ⟨gs, 1, none⟩ = some (.int .u32 (r.b : Int)) := by rw [hW3]; exact p1
      have o2 : W3.cell? ⟨gs, 2, none⟩ = some (.int .u32 (r.c : Int)) := by rw [hW3]; exact p2
      have o3 : W3.cell? ⟨gs, 3, none⟩ = some (.int .u32 (r.d : Int)) := by rw [hW3]; exact p3
      have o5 : W3.cell? ⟨gs, 5, none⟩ = some (.int .u32 (r.f : Int)) := by rw [hW3]; exact p5
      have o6 : W3.cell? ⟨gs, 6, none⟩ = some (.int .u32 (r.g : Int)) := by rw [hW3]; exact p6
      have hown1b : W3.ownsRow w.heap.size 40 1 (.slice (some ⟨g1, 0, none⟩) 64 c1) 64 (us l) := by rw [hW3]; exact hown1a
      have hown2b : W3.ownsRow w.heap.size 40 1 (.slice (some ⟨g2, 0, none⟩) 64 c2) 64 (us shaK) := by rw [hW3]; exact hown2a
      have hbwb : Below w.heap.size w W3 := by rw [hW3]; exact hbwa.trans (Drew.below ⟨_, rfl⟩ _)
      clear hW3 p1 p2 p3 p5 p6 hown1a hown2a hbwa
      have hvv := tV_lt r
      go_still_tail 22, (by kernel_rfl)
      go_wp2
      go_roundw
      case rel =>
        have hS : Sl (W3.alloc (.cells (us (rnd r y x).list).toArray 40)).drew (W3.alloc (.cells (us (rnd r y x).list).toArray 40)).drew.heap.size (some ⟨W3.heap.size, 0, none⟩) 8 (us (rnd r y x).list) := (Sl.new W3 (us (rnd r y x).list).toArray 40).up (by rw [heap_drew, alloc_size']; exact Nat.le_refl _)
        exact ⟨k + 1, W3.heap.size, 8, rnd r y x, by omega, by unfold Hid; rw [HX.out, HY.out, HR.out]; rfl, rfl, hS, by go_num, hown1b.alloc _, hown2b.alloc _, (hbwb.alloc hbwb.size _).drew⟩
      case measure => simp [intOf]; omega
    · have HK : Hid (k = 64) := (by omega : k = 64)
      obtain ⟨w4, hw4⟩ : ∃ x, x = wr := ⟨wr, rfl⟩
      subst hw4
      have HB : Hid (v.plus r = blk v b) := by unfold Hid blk; rw [HR.out, HK.out, EL.out]
      have hvs := hv.below (hbw.mono hB)
      have hbs := hbw.size
      clear hown1 hown2 hv
      go_wp2
      go_loopw [13, 14] (fun o i wr => ∃ j : Nat, j ≤ 8 ∧ i = .int .i64 j ∧ wr.ownsRow w4.heap.size 40 1 o j (us ((v.plus r).list.take j)) ∧ Below w4.heap.size w4 wr) (fun _ i _ => 8 - (intOf i).toNat)
      case atStart => exact ⟨0, by omega, rfl, World.ownsRow_nil _ _ _ _, Below.refl _ _⟩
      case round =>
        obtain ⟨j, hj, rfl, hown, hb5⟩ := hrel
        by_cases hlt2 : j < 8
        · have hv5 := hvs.below (hb5.mono (Nat.le_trans hB hbs))
          have hs5 := hsl.below hb5
          have cv := hv5.cell0 (us_at (l := v.list) (j := j) (by rw [show v.list.length = 8 from rfl]; exact hlt2))
          have cr := hs5.cell0 (us_at (l := r.list) (j := j) (by rw [show r.list.length = 8 from rfl]; exact hlt2))
          obtain ⟨x, hx⟩ : ∃ x, x = v.list.getD j 0 := ⟨_, rfl⟩
          obtain ⟨y, hy⟩ : ∃ y, y = r.list.getD j 0 := ⟨_, rfl⟩
          rw [← hx] at cv
          rw [← hy] at cr
          have HS : Hid (us ((v.plus r).list.take (j + 1)) = us ((v.plus r).list.take j) ++ [.int .u32 ((x + y) % 4294967296 : Nat)]) := by unfold Hid; rw [hx, hy]; exact plus_take v r j hlt2
          have hb5s := hb5.size
          have hj0 : (0 : Int) ≤ (j : Int) := by omega
          have hj1 : (j : Int) < 8 := by omega
          clear hx hy hv5 hs5
          go_wp2_with fail
          go_region_law (refine step_append_own rfl _ _ 52 rfl w4.heap.size 40 i0 (.int .u32 0) 4 Tryd.underlying52 hi hz0 hz1 hz2 rfl _ _ _ rfl (hown.alloc _) ⟨wr.heap.size, 0, none⟩ 1 1 _ rfl rfl (cell_one_new _ _ _) (by simp [Value.oneCell']) (by unfold maxLen; omega) (by omega) (by simp; omega) ?_; intro v' w2 hown' hgrow)
          all_goals
            simp only [List.getElem_toArray, List.getElem_cons_succ, List.getElem_cons_zero, Act.put, List.setIfInBounds_toArray, List.set_cons_zero, List.set_cons_succ]
            have hb2 := below_app1 hb5.drew (Nat.le_refl _) hown hgrow
            have HO := Lib.hid hown'
            clear hown' hgrow hown cv cr
            go_wp2
            go_roundw
            case rel =>
              have hfin := HO.out
              rw [wrap1, ← HS.out] at hfin
              exact ⟨j + 1, by omega, by go_num, hfin, hb2⟩
            case measure => simp [intOf]; omega
        · have HK2 : Hid (j = 8) := (by omega : j = 8)
          go_wp2
          go_ret
          rw [HK2.out] at hown
          exact retRow rfl (by rw [HB.out]; rfl) (own_down hown hbs) (hbw.trans (hb5.mono hbs))

end Go.Proofs.YtfmbilnbbpbpeaaDoor

