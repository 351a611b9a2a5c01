/- The reference of layer 2: words, keys, first. -/
import Derived.Test.YtlnoopmblmkgkaaGreatDoorLD
import Derived.Test.YtlnoopmblmkgkaaGreatDoorLA
import Derived.Deep.RegionLaw
import Derived.IntWalk
import Derived.StillTailTactics
namespace Go.Proofs.YtlnoopmblmkgkaaGreatDoor
set_option maxRecDepth 100000
open Go.RowKit

/-- By how much the reference turns to the left. -/
def rK (n : Int) : Nat := turnK (32 - n)
theorem right_open (x : Nat) (n : Int) (w : World) (h : x < 4294967296) (h0 : 0 ≤ n) (h1 : n ≤ 32) :
    Calls Tryz.prog 156 #[.int .u32 x, .int .i64 n] w fun e w' => e = .returned (.int .u32 (rotN x (rK n) : Nat)) ∧ w = w' := by
  obtain ⟨k, rfl⟩ := Int.eq_ofNat_of_zero_le h0
  exact right_any x k (rK k) w h (by omega) rfl

theorem down_lit (x : Nat) (n : Int) (k d : Nat) (w : World) (h : x < 4294967296) (hk : n = k) (hk32 : k ≤ 32) (hd : 2 ^ k = d) :
    Calls Tryz.prog 172 #[.int .u32 x, .int .i64 n] w fun e w' => e = .returned (.int .u32 ((x : Int) / (d : Int))) ∧ w = w' := by
  subst hk; subst hd
  have e : (x : Int) / ((2 ^ k : Nat) : Int) = ((x / 2 ^ k : Nat) : Int) := by rw [Int.natCast_ediv]
  rw [e]
  exact down_any x k w h hk32


theorem fill_keys : Instr.fill (fun j => some (j, 1)) (zeros .u32 64).toArray (((List.range 64).map fun j => (j, Value.int .u32 (shaK.getD j 0 : Nat)))) = some (us shaK).toArray := by kernel_rfl

set_option maxRecDepth 100000 in
theorem keys_any (w : World) : Calls Tryz.prog 155 #[] w (RetRow 81 w 64 (us shaK)) := by
  obtain ⟨i0, hi, hz0, hz1, hz2⟩ := info_parts u32_info
  have hl : (us shaK).length = 64 := by rw [us_len, shaK_len]
  obtain ⟨S, hS⟩ : ∃ S, S = us shaK := ⟨_, rfl⟩
  have hf := fill_keys
  rw [← hS] at hf hl ⊢
  have HF := Lib.hid hf
  have HL := Lib.hid hl
  clear hf hS hl
  go_enter Tryz.func155, Tryz.ntmps155
  go_wp2_with (refine wpList_buildSlice_to rfl 135 64 _ rfl 81 i0 .u32 Tryz.underlying135 hi hz0 hz1 (by omega) (by omega) S HF.out ?_)
  go_ret
  exact retRow rfl rfl (World.ownsRow_lit w S.toArray 64 (Nat.le_refl _) (by decide) (by simp [HL.out])) ((Below.refl _ w).alloc (Nat.le_refl _) _)

theorem first_any (w : World) : Calls Tryz.prog 137 #[] w (RetRow 81 w 8 (us shaS.list)) := by
  go_enter Tryz.func137, Tryz.ntmps137
  go_wp2
  go_ret
  exact retRow rfl rfl (World.ownsRow_lit w (us shaS.list).toArray 8 (Nat.le_refl _) (by decide) rfl) ((Below.refl _ w).alloc (Nat.le_refl _) _)

end Go.Proofs.YtlnoopmblmkgkaaGreatDoor

namespace Go.Proofs.YtlnoopmblmkgkaaGreatDoor
set_option maxRecDepth 100000
open Go.RowKit

set_option linter.unusedSimpArgs false in
set_option maxRecDepth 100000 in
set_option maxHeartbeats 1000000 in
theorem rwords_any (b : List UInt8) (w : World) (B : Nat) (A : Option Addr) (c : Nat) (h : Sl w B A 64 (cb b)) (hB : B ≤ w.heap.size) (hc : 64 ≤ c) (hA : A = none → c = 0) :
    Calls Tryz.prog 154 #[.slice A 64 c] w (RetRow 81 w 64 (us (ws b 64))) := by
  obtain ⟨i0, hi, hz0, hz1, hz2⟩ := info_parts u32_info
  have hb64 : b.length = 64 := by rw [← cb_len]; exact h.1
  have HB64 := Lib.hid hb64
  clear hb64
  go_enter Tryz.func154, Tryz.ntmps154
  go_wp2
  go_loopw [3, 4] (fun v i wr => ∃ k : Nat, k ≤ 16 ∧ i = .int .i64 k ∧ wr.ownsRow w.heap.size 81 1 v k (us (ws b k)) ∧ Below w.heap.size w wr) (fun _ i _ => 16 - (intOf i).toNat)
  case atStart => exact ⟨0, by omega, rfl, World.ownsRow_nil _ _ _ _, Below.refl _ _⟩
  case round =>
    obtain ⟨k, hk, rfl, hown, hbel⟩ := hrel
    by_cases hlt : k < 16
    · have HS : Hid (us (ws b (k + 1)) = us (ws b k) ++ [.int .u32 (wd b k : Nat)]) := by unfold Hid; rw [ws_low b k hlt, us_append]; rfl
      have hsl := h.below (hbel.mono hB)
      have hbs := hbel.size
      go_wp2_with (refine wpList_slice_lh rfl 22 _ _ _ rfl 5 Tryz.underlying22 u8_size A 64 c (4 * k) (4 * k + 4) .i64 .i64 _ _ rfl rfl rfl (by omega) (by omega) (by omega) (by omega) hA ?_; intro A2 HA2)
      have hsl2 := sl_mid (l := 4 * k) (h := 4 * k + 4) hsl (by omega) (by omega) hc
      rw [← HA2.out, ← cb_slice] at hsl2
      have e4 : 4 * k + 4 - 4 * k = 4 := by omega
      rw [e4] at hsl2
      refine (rload_any ((b.drop (4 * k)).take 4) false _ _ _ _ _ hsl2 (by decide) (Nat.le_trans hB hbs)).mono ?_
      rintro e w1 ⟨rfl, hb1⟩
      have hown1 := own_below hown hb1
      have hbel1 := hbel.trans (hb1.mono hbs)
      have hbs1 := hbel1.size
      have HW : Hid (loadV ((b.drop (4 * k)).take 4) false = wd b k) := (rfl : _ = _)
      rw [HW.out]
      clear hown hbel hb1 hsl hsl2 e4
      go_wp2_with (at_builtin; refine wpList_append_own_at _ rfl _ _ 135 rfl w.heap.size 81 i0 (.int .u32 0) 1 4 Tryz.underlying135 hi hz0 hz1 hz2 rfl (by decide) _ _ _ rfl (hown1.alloc _) ⟨w1.heap.size, 0, none⟩ 1 1 _ rfl rfl (cell_one_new _ _ _) (by simp [Value.oneCell']) (by unfold maxLen; omega) (by omega) (by simp; omega) ?_; intro v' w2 hown' hgrow hnil hat)
      have hb2 := below_app1 hbel1 (Nat.le_refl _) hown1 hgrow
      have HO := Lib.hid hown'
      clear hown' hgrow hnil hat hown1
      go_wp2
      go_roundw
      case rel => exact ⟨k + 1, by omega, by go_num, by rw [HS.out]; exact HO.out, hb2⟩
      case measure => simp [intOf]; omega
    · have HK : Hid (k = 16) := (by omega : k = 16)
      rw [HK.out] at hown
      clear h
      go_wp2
      go_loopw [3, 7] (fun v i wr => ∃ k : Nat, 16 ≤ k ∧ k ≤ 64 ∧ i = .int .i64 k ∧ wr.ownsRow w.heap.size 81 1 v k (us (ws b k)) ∧ Below w.heap.size w wr) (fun _ i _ => 64 - (intOf i).toNat)
      case atStart => exact ⟨16, by omega, by omega, rfl, hown, hbel⟩
      case round =>
        clear hown hbel
        obtain ⟨t, ht16, ht, rfl, hown, hb⟩ := hrel
        by_cases hlt2 : t < 64
        · have hwl := ws_lt b t
          obtain ⟨gg, cap, rfl, hgg, hggl⟩ := hown.form (by omega)
          obtain ⟨p, hp⟩ : ∃ p, p = (ws b t).getD (t - 2) 0 := ⟨_, rfl⟩
          obtain ⟨q, hq⟩ : ∃ q, q = (ws b t).getD (t - 7) 0 := ⟨_, rfl⟩
          obtain ⟨r, hr⟩ : ∃ r, r = (ws b t).getD (t - 15) 0 := ⟨_, rfl⟩
          obtain ⟨z, hz⟩ : ∃ z, z = (ws b t).getD (t - 16) 0 := ⟨_, rfl⟩
          have lp : p < 4294967296 := by rw [hp]; exact getD_lt32 hwl _
          have lq : q < 4294967296 := by rw [hq]; exact getD_lt32 hwl _
          have lr : r < 4294967296 := by rw [hr]; exact getD_lt32 hwl _
          have lz : z < 4294967296 := by rw [hz]; exact getD_lt32 hwl _
          have cp : wr.cell? ⟨gg, t - 2, none⟩ = some (.int .u32 (p : Int)) := by rw [own_u32 hown (ws_len b t) (by omega), hp]
          have cq : wr.cell? ⟨gg, t - 7, none⟩ = some (.int .u32 (q : Int)) := by rw [own_u32 hown (ws_len b t) (by omega), hq]
          have cr : wr.cell? ⟨gg, t - 15, none⟩ = some (.int .u32 (r : Int)) := by rw [own_u32 hown (ws_len b t) (by omega), hr]
          have cz : wr.cell? ⟨gg, t - 16, none⟩ = some (.int .u32 (z : Int)) := by rw [own_u32 hown (ws_len b t) (by omega), hz]
          have HX : Hid (nxt (ws b t) t = (ss1 p + q + ss0 r + z) % 4294967296) := by unfold Hid nxt; rw [hp, hq, hr, hz]
          have HS : Hid (us (ws b (t + 1)) = us (ws b t) ++ [.int .u32 (nxt (ws b t) t : Nat)]) := by unfold Hid; rw [ws_high b t ht16, us_append]; rfl
          have E1 := ss1_eq p lp
          have E0 := ss0_eq r lr
          clear hp hq hr hz hwl
          go_wp2_with fail
          refine (right_open p 17 _ lp (by decide) (by decide)).mono ?_
          rintro e w' ⟨rfl, rfl⟩
          rw [show rK 17 = 15 by decide]
          go_wp2_with fail
          refine (right_open p 19 _ lp (by decide) (by decide)).mono ?_
          rintro e w' ⟨rfl, rfl⟩
          rw [show rK 19 = 13 by decide]
          go_wp2_with fail
          refine (down_lit p 10 10 1024 _ lp rfl (by decide) (by decide)).mono ?_
          rintro e w' ⟨rfl, rfl⟩
          go_wp2_with fail
          refine (right_open r 7 _ lr (by decide) (by decide)).mono ?_
          rintro e w' ⟨rfl, rfl⟩
          rw [show rK 7 = 25 by decide]
          go_wp2_with fail
          refine (right_open r 18 _ lr (by decide) (by decide)).mono ?_
          rintro e w' ⟨rfl, rfl⟩
          rw [show rK 18 = 14 by decide]
          go_wp2_with fail
          refine (down_lit r 3 3 8 _ lr rfl (by decide) (by decide)).mono ?_
          rintro e w' ⟨rfl, rfl⟩
          go_wp2_with fail
          have hbs := hb.size
          have n7 : (0 : Int) ≤ (t : Int) - 7 := by omega
          have n16 : (0 : Int) ≤ (t : Int) - 16 := by omega
          have s7 : (7 : Int) ≤ (t : Int) := by omega
          have s16 : (16 : Int) ≤ (t : Int) := by omega
          have m7 : (t : Int) - 7 < (t : Int) := by omega
          have m16 : (t : Int) - 16 < (t : Int) := by omega
          have i7 : ((t : Int) - 7).toNat = t - 7 := by omega
          have i16 : ((t : Int) - 16).toNat = t - 16 := by omega
          have x7 : IntKind.i64.wrap ((t : Int) - 7) = (t : Int) - 7 := IntWalk.i64_in _ (by omega)
          have x16 : IntKind.i64.wrap ((t : Int) - 16) = (t : Int) - 16 := IntWalk.i64_in _ (by omega)
          clear cp cr E1 E0 lp lr
          go_region_law (refine step_append_own rfl _ _ 135 rfl w.heap.size 81 i0 (.int .u32 0) 4 Tryz.underlying135 hi hz0 hz1 hz2 rfl _ _ _ rfl (hown.alloc _) ⟨wr.heap.size, 0, none⟩ 1 1 _ rfl rfl (cell_one_new _ _ _) (by simp [Value.oneCell']) (by unfold maxLen; omega) (by omega) (by simp; omega) ?_; intro v' w2 hown' hgrow)
          all_goals
            simp only [List.getElem_toArray, List.getElem_cons_succ, List.getElem_cons_zero, Act.put, List.setIfInBounds_toArray, List.set_cons_zero, List.set_cons_succ]
            have hb2 := below_app1 hb.drew (Nat.le_refl _) hown hgrow
            have HO := Lib.hid hown'
            clear hown' hgrow hown cq cz x7 x16 i7 i16 n7 n16 s7 s16 m7 m16
            go_wp2
            go_roundw
            case rel =>
              have hfin := HO.out
              rw [wrap3, ← HX.out, ← HS.out] at hfin
              exact ⟨t + 1, by omega, by omega, by go_num, hfin, hb2⟩
            case measure => simp [intOf]; omega
        · have HK2 : Hid (t = 64) := (by omega : t = 64)
          go_wp2
          go_ret
          exact retRow HK2.out (by rw [HK2.out]) hown hb

end Go.Proofs.YtlnoopmblmkgkaaGreatDoor

namespace Go.Proofs.YtlnoopmblmkgkaaGreatDoor
set_option maxRecDepth 100000
open Go.RowKit

theorem tU_ref (r : W8) (y x : Nat) (hok : r.ok) : ((r.h : Int) + bits BinOp.xor IntKind.u32 (bits BinOp.xor IntKind.u32 ((rotN r.e (rK 6) : Nat) : Int) ((rotN r.e (rK 11) : Nat) : Int)) ((rotN r.e (rK 25) : Nat) : Int) +
    bits BinOp.xor IntKind.u32 (bits BinOp.and IntKind.u32 (r.e : Int) (r.f : Int)) (bits BinOp.and IntKind.u32 (bits BinOp.xor IntKind.u32 IntKind.u32.max (r.e : Int)) (r.g : Int)) + (y : Int) + (x : Int)) % 4294967296 = ((tU r y x : Nat) : Int) := by
  obtain ⟨ha, hb, hc, hd, he, hf, hg, hh⟩ := hok
  rw [show rK 6 = 26 by decide, show rK 11 = 21 by decide, show rK 25 = 7 by decide, bs1_eq r.e he, ch_eq _ _ _ _ (by decide) he hf hg]
  unfold tU
  omega
theorem tV_ref (r : W8) (hok : r.ok) : (bits BinOp.xor IntKind.u32 (bits BinOp.xor IntKind.u32 ((rotN r.a (rK 2) : Nat) : Int) ((rotN r.a (rK 13) : Nat) : Int)) ((rotN r.a (rK 22) : Nat) : Int) +
    bits BinOp.xor IntKind.u32 (bits BinOp.xor IntKind.u32 (bits BinOp.and IntKind.u32 (r.a : Int) (r.b : Int)) (bits BinOp.and IntKind.u32 (r.a : Int) (r.c : Int))) (bits BinOp.and IntKind.u32 (r.b : Int) (r.c : Int))) % 4294967296 = ((tV r : Nat) : Int) := by
  obtain ⟨ha, hb, hc, hd, he, hf, hg, hh⟩ := hok
  rw [show rK 2 = 30 by decide, show rK 13 = 19 by decide, show rK 22 = 10 by decide, bs0_eq r.a ha, maj_eq _ _ _ ha hb hc]
  unfold tV
  omega

theorem plus_take (v r : W8) (j : Nat) (h : j < 8) : us ((v.plus r).list.take (j + 1)) = us ((v.plus r).list.take j) ++ [.int .u32 ((v.list.getD j 0 + r.list.getD j 0) % 4294967296 : Nat)] := by
  have hl : j < (v.plus r).list.length := h
  rw [List.take_succ_eq_append_getElem hl, us_append]
  congr 1
  have : j = 0 ∨ j = 1 ∨ j = 2 ∨ j = 3 ∨ j = 4 ∨ j = 5 ∨ j = 6 ∨ j = 7 := by omega
  rcases this with rfl | rfl | rfl | rfl | rfl | rfl | rfl | rfl <;> rfl

set_option linter.unusedSimpArgs false in
set_option maxRecDepth 100000 in
set_option maxHeartbeats 2000000 in
theorem rblock_any (v : W8) (b : List UInt8) (w : World) (B gv cv : Nat) (A : Option Addr) (c : Nat) (hv : Sl w B (some ⟨gv, 0, none⟩) 8 (us v.list)) (hok : v.ok) (h : Sl w B A 64 (cb b)) (hB : B ≤ w.heap.size) (hc : 64 ≤ c) (hA : A = none → c = 0) :
    Calls Tryz.prog 138 #[.slice (some ⟨gv, 0, none⟩) 8 cv, .slice A 64 c] w (RetRow 81 w 8 (us (blk v b).list)) := by
  obtain ⟨i0, hi, hz0, hz1, hz2⟩ := info_parts u32_info
  have HOK := Lib.hid hok
  clear hok
  go_enter Tryz.func138, Tryz.ntmps138
  go_wp2_with fail
  refine (rwords_any b _ _ A c h hB hc hA).mono ?_
  rintro e w1 ⟨A1, c1, rfl, hown1, hb1⟩
  obtain ⟨g1, c1', e1, hg1, hg1l⟩ := hown1.form (by omega)
  injection e1 with e1 _ e1c
  subst e1; subst e1c
  obtain ⟨l, el⟩ : ∃ l, l = ws b 64 := ⟨_, rfl⟩
  have hll : l.length = 64 := by rw [el, ws_len]
  have hlt := ws_lt b 64
  rw [← el] at hlt hown1
  have EL := Lib.hid el
  have HLL := Lib.hid hll
  have HLT := Lib.hid hlt
  clear el hll hlt h
  go_wp2_with fail
  refine (keys_any _).mono ?_
  rintro e w2 ⟨A2, c2, rfl, hown2, hb2⟩
  obtain ⟨g2, c2', e2, hg2, hg2l⟩ := hown2.form (by omega)
  injection e2 with e2 _ e2c
  subst e2; subst e2c
  have hown1' := own_below hown1 hb2
  have hbw := next hb1 hb2
  have hown2' := own_down hown2 hb1.size
  clear hown1 hown2 hb1 hb2
  go_wp2
  go_loopw [7, 8] (fun s i wr => ∃ (k gs cs : Nat) (r : W8), k ≤ 64 ∧ Hid (r = rnds l v k) ∧ s = .slice (some ⟨gs, 0, none⟩) 8 cs ∧ Sl wr wr.heap.size (some ⟨gs, 0, none⟩) 8 (us r.list) ∧ i = .int .i64 k
    ∧ wr.ownsRow w.heap.size 81 1 (.slice (some ⟨g1, 0, none⟩) 64 c1) 64 (us l) ∧ wr.ownsRow w.heap.size 81 1 (.slice (some ⟨g2, 0, none⟩) 64 c2) 64 (us shaK) ∧ Below w.heap.size w wr) (fun _ i _ => 64 - (intOf i).toNat)
  case atStart => exact ⟨0, gv, cv, v, by omega, (rfl : _ = _), rfl, (hv.below (hbw.mono hB)).up (by have := hbw.size; omega), rfl, hown1', hown2', hbw⟩
  case round =>
    clear hown1' hown2' hbw
    obtain ⟨k, gs, cs, r, hk, HR, rfl, hsl, rfl, hown1, hown2, hbw⟩ := hrel
    obtain ⟨ha, hb, hc', hd, he, hf, hg, hh⟩ : r.ok := by rw [HR.out]; exact rnds_ok l v HOK.out k
    by_cases hlt : k < 64
    · have ck := own_u32 hown2 shaK_len hlt
      have cw := own_u32 hown1 HLL.out hlt
      obtain ⟨x, hx⟩ : ∃ x, x = l.getD k 0 := ⟨_, rfl⟩
      obtain ⟨y, hy⟩ : ∃ y, y = shaK.getD k 0 := ⟨_, rfl⟩
      have hx2 : x < 4294967296 := by rw [hx]; exact getD_lt32 HLT.out k
      have hy2 : y < 4294967296 := by rw [hy]; exact getD_lt32 shaK_lt k
      rw [← hx] at cw
      rw [← hy] at ck
      have HX := Lib.hid hx
      have HY := Lib.hid hy
      clear hx hy
      have q0 : wr.cell? ⟨gs, 0, none⟩ = some (.int .u32 (r.a : Int)) := hsl.cell0 (j := 0) rfl
      have q1 : wr.cell? ⟨gs, 1, none⟩ = some (.int .u32 (r.b : Int)) := hsl.cell0 (j := 1) rfl
      have q2 : wr.cell? ⟨gs, 2, none⟩ = some (.int .u32 (r.c : Int)) := hsl.cell0 (j := 2) rfl
      have q3 : wr.cell? ⟨gs, 3, none⟩ = some (.int .u32 (r.d : Int)) := hsl.cell0 (j := 3) rfl
      have q4 : wr.cell? ⟨gs, 4, none⟩ = some (.int .u32 (r.e : Int)) := hsl.cell0 (j := 4) rfl
      have q5 : wr.cell? ⟨gs, 5, none⟩ = some (.int .u32 (r.f : Int)) := hsl.cell0 (j := 5) rfl
      have q6 : wr.cell? ⟨gs, 6, none⟩ = some (.int .u32 (r.g : Int)) := hsl.cell0 (j := 6) rfl
      have q7 : wr.cell? ⟨gs, 7, none⟩ = some (.int .u32 (r.h : Int)) := hsl.cell0 (j := 7) rfl
      have hi0 : (0 : Int) ≤ (k : Int) := by omega
      have hi1 : (k : Int) < 64 := by omega
      go_wp2_with fail
      go_quiet ((go_at_call 156; exact Calls.quiet_of_same (still_of (right_open r.e _ _ he (by decide) (by decide)))))
      go_wp2_with fail
      have hrok : r.ok := ⟨ha, hb, hc', hd, he, hf, hg, hh⟩
      rw [tU_ref r y x hrok]
      obtain ⟨W2, hW2⟩ : ∃ W, W = wr.drewN nq := ⟨_, rfl⟩
      rw [← hW2]
      have p1 : W2.cell? ⟨gs, 1, none⟩ = some (.int .u32 (r.b : Int)) := by rw [hW2]; exact q1
      have p2 : W2.cell? ⟨gs, 2, none⟩ = some (.int .u32 (r.c : Int)) := by rw [hW2]; exact q2
      have p3 : W2.cell? ⟨gs, 3, none⟩ = some (.int .u32 (r.d : Int)) := by rw [hW2]; exact q3
      have p5 : W2.cell? ⟨gs, 5, none⟩ = some (.int .u32 (r.f : Int)) := by rw [hW2]; exact q5
      have p6 : W2.cell? ⟨gs, 6, none⟩ = some (.int .u32 (r.g : Int)) := by rw [hW2]; exact q6
      have hown1a : W2.ownsRow w.heap.size 81 1 (.slice (some ⟨g1, 0, none⟩) 64 c1) 64 (us l) := by rw [hW2]; exact hown1
      have hown2a : W2.ownsRow w.heap.size 81 1 (.slice (some ⟨g2, 0, none⟩) 64 c2) 64 (us shaK) := by rw [hW2]; exact hown2
      have hbwa : Below w.heap.size w W2 := by rw [hW2]; exact hbw.trans (Drew.below ⟨_, rfl⟩ _)
      clear hW2 q0 q1 q2 q3 q4 q5 q6 q7 ck cw hown1 hown2 hbw hsl
      have hu := tU_lt r y x
      go_quiet ((go_at_call 156; exact Calls.quiet_of_same (still_of (right_open r.a _ _ ha (by decide) (by decide)))))
      go_wp2_with fail
      rw [tV_ref r hrok]
      obtain ⟨W3, hW3⟩ : ∃ W, W = W2.drewN nq := ⟨_, rfl⟩
      rw [← hW3]
      have o1 : W3.cell? ⟨gs, 1, none⟩ = some (.int .u32 (r.b : Int)) := by rw [hW3]; exact p1
      have o2 : W3.cell? ⟨gs, 2, none⟩ = some (.int .u32 (r.c : Int)) := by rw [hW3]; exact p2
      have o3 : W3.cell? ⟨gs, 3, none⟩ = some (.int .u32 (r.d : Int)) := by rw [hW3]; exact p3
      have o5 : W3.cell? ⟨gs, 5, none⟩ = some (.int .u32 (r.f : Int)) := by rw [hW3]; exact p5
      have o6 : W3.cell? ⟨gs, 6, none⟩ = some (.int .u32 (r.g : Int)) := by rw [hW3]; exact p6
      have hown1b : W3.ownsRow w.heap.size 81 1 (.slice (some ⟨g1, 0, none⟩) 64 c1) 64 (us l) := by rw [hW3]; exact hown1a
      have hown2b : W3.ownsRow w.heap.size 81 1 (.slice (some ⟨g2, 0, none⟩) 64 c2) 64 (us shaK) := by rw [hW3]; exact hown2a
      have hbwb : Below w.heap.size w W3 := by rw [hW3]; exact hbwa.trans (Drew.below ⟨_, rfl⟩ _)
      clear hW3 p1 p2 p3 p5 p6 hown1a hown2a hbwa
      have hvv := tV_lt r
      go_still_tail 22, (by kernel_rfl)
      go_wp2
      go_roundw
      case rel =>
        have hS : Sl (W3.alloc (.cells (us (rnd r y x).list).toArray 81)).drew (W3.alloc (.cells (us (rnd r y x).list).toArray 81)).drew.heap.size (some ⟨W3.heap.size, 0, none⟩) 8 (us (rnd r y x).list) := (Sl.new W3 (us (rnd r y x).list).toArray 81).up (by rw [heap_drew, alloc_size']; exact Nat.le_refl _)
        exact ⟨k + 1, W3.heap.size, 8, rnd r y x, by omega, by unfold Hid; rw [HX.out, HY.out, HR.out]; rfl, rfl, hS, by go_num, hown1b.alloc _, hown2b.alloc _, (hbwb.alloc hbwb.size _).drew⟩
      case measure => simp [intOf]; omega
    · have HK : Hid (k = 64) := (by omega : k = 64)
      obtain ⟨w4, hw4⟩ : ∃ x, x = wr := ⟨wr, rfl⟩
      subst hw4
      have HB : Hid (v.plus r = blk v b) := by unfold Hid blk; rw [HR.out, HK.out, EL.out]
      have hvs := hv.below (hbw.mono hB)
      have hbs := hbw.size
      clear hown1 hown2 hv
      go_wp2
      go_loopw [13, 14] (fun o i wr => ∃ j : Nat, j ≤ 8 ∧ i = .int .i64 j ∧ wr.ownsRow w4.heap.size 81 1 o j (us ((v.plus r).list.take j)) ∧ Below w4.heap.size w4 wr) (fun _ i _ => 8 - (intOf i).toNat)
      case atStart => exact ⟨0, by omega, rfl, World.ownsRow_nil _ _ _ _, Below.refl _ _⟩
      case round =>
        obtain ⟨j, hj, rfl, hown, hb5⟩ := hrel
        by_cases hlt2 : j < 8
        · have hv5 := hvs.below (hb5.mono (Nat.le_trans hB hbs))
          have hs5 := hsl.below hb5
          have cv := hv5.cell0 (us_at (l := v.list) (j := j) (by rw [show v.list.length = 8 from rfl]; exact hlt2))
          have cr := hs5.cell0 (us_at (l := r.list) (j := j) (by rw [show r.list.length = 8 from rfl]; exact hlt2))
          obtain ⟨x, hx⟩ : ∃ x, x = v.list.getD j 0 := ⟨_, rfl⟩
          obtain ⟨y, hy⟩ : ∃ y, y = r.list.getD j 0 := ⟨_, rfl⟩
          rw [← hx] at cv
          rw [← hy] at cr
          have HS : Hid (us ((v.plus r).list.take (j + 1)) = us ((v.plus r).list.take j) ++ [.int .u32 ((x + y) % 4294967296 : Nat)]) := by unfold Hid; rw [hx, hy]; exact plus_take v r j hlt2
          have hb5s := hb5.size
          have hj0 : (0 : Int) ≤ (j : Int) := by omega
          have hj1 : (j : Int) < 8 := by omega
          clear hx hy hv5 hs5
          go_wp2_with fail
          go_region_law (refine step_append_own rfl _ _ 135 rfl w4.heap.size 81 i0 (.int .u32 0) 4 Tryz.underlying135 hi hz0 hz1 hz2 rfl _ _ _ rfl (hown.alloc _) ⟨wr.heap.size, 0, none⟩ 1 1 _ rfl rfl (cell_one_new _ _ _) (by simp [Value.oneCell']) (by unfold maxLen; omega) (by omega) (by simp; omega) ?_; intro v' w2 hown' hgrow)
          all_goals
            simp only [List.getElem_toArray, List.getElem_cons_succ, List.getElem_cons_zero, Act.put, List.setIfInBounds_toArray, List.set_cons_zero, List.set_cons_succ]
            have hb2 := below_app1 hb5.drew (Nat.le_refl _) hown hgrow
            have HO := Lib.hid hown'
            clear hown' hgrow hown cv cr
            go_wp2
            go_roundw
            case rel =>
              have hfin := HO.out
              rw [wrap1, ← HS.out] at hfin
              exact ⟨j + 1, by omega, by go_num, hfin, hb2⟩
            case measure => simp [intOf]; omega
        · have HK2 : Hid (j = 8) := (by omega : j = 8)
          go_wp2
          go_ret
          rw [HK2.out] at hown
          exact retRow rfl (by rw [HB.out]; rfl) (own_down hown hbs) (hbw.trans (hb5.mono hbs))

end Go.Proofs.YtlnoopmblmkgkaaGreatDoor

namespace Go.Proofs.YtlnoopmblmkgkaaGreatDoor
set_option maxRecDepth 100000
open Go.RowKit

theorem told8_rev (x : Nat) : (le x 8).reverse = told8 x := rfl
theorem padded_eq (l : List UInt8) : (l ++ [128] ++ List.replicate (padZ l.length) 0) ++ told8 (8 * l.length) = padded l := by simp [padded, pad]
theorem padded_len (l : List UInt8) : (padded l).length = l.length + (padZ l.length + 9) := by unfold padded; rw [List.length_append, pad_len]
theorem out_take (l : List Nat) (j : Nat) (h : j < l.length) : (out l).take (4 * (j + 1)) = (out l).take (4 * j) ++ stored (l.getD j 0) false := by
  rw [show 4 * (j + 1) = 4 * j + 4 by omega, List.take_add, out_part l j h]

set_option linter.unusedSimpArgs false in
set_option maxRecDepth 100000 in
set_option maxHeartbeats 1000000 in
theorem rof_any (l : List UInt8) (w : World) (B : Nat) (A : Option Addr) (n c : Nat) (h : Sl w B A n (cb l)) (hA : A = none → c = 0) (hB : B ≤ w.heap.size) (hm : n ≤ 100000000) :
    Calls Tryz.prog 104 #[.slice A n c] w (RetBytes 5 w 32 (sha l)) := by
  obtain ⟨i0, hi, hz0, hz1, hz2⟩ := info_parts u8_info
  have hn : n = l.length := by rw [← h.1, cb_len]
  subst hn
  have hz := padZ_lt l.length
  have h0 := World.ownsRow_lit (base := w.heap.size) (e := 5) (size := 1) w #[] 0 (Nat.le_refl _) (by decide) rfl
  go_enter Tryz.func104, Tryz.ntmps104
  go_wp2_with (first
    | (at_builtin; refine wpList_append_sl _ rfl _ _ 22 rfl w.heap.size 5 i0 (.int .u8 0) 1 Tryz.underlying22 hi hz0 hz1 hz2 rfl _ 0 [] rfl h0 B A l.length c (cb l) rfl (h.alloc hB _) hA (cb_one l) (by unfold maxLen; omega) (by omega) (by simp) ?_; intro v1 w1 hown1 hgrow1 hat1; have hb1 : Below w.heap.size w w1 := below_app ((Below.refl w.heap.size w).alloc (Nat.le_refl _) _) (Nat.le_refl _) h0 hgrow1; have hbs1 := hb1.size)
    | (at_builtin; refine wpList_append_own_at _ rfl _ _ 22 rfl w.heap.size 5 i0 (.int .u8 0) 1 1 Tryz.underlying22 hi hz0 hz1 hz2 rfl (by decide) _ _ _ rfl (hown1.alloc _) ⟨w1.heap.size, 0, none⟩ 1 1 _ rfl rfl (cell_one_new _ _ _) (by simp [Value.oneCell']) (by unfold maxLen; omega) (by omega) (by simp; omega) ?_; intro v2 w2 hown2 hgrow2 hnil2 hat2; have hb2 := below_app1 hb1 (Nat.le_refl _) hown1 hgrow2))
  clear hgrow1 hat1 hgrow2 hnil2 hat2 h0 hown1 hbs1
  rw [List.nil_append, Nat.zero_add] at hown2
  have hown3 : w2.ownsRow w.heap.size 5 1 v2 (l.length + 1 + 0) (cb (l ++ [128] ++ List.replicate 0 0)) := by
    have e : cb (l ++ [128] ++ List.replicate 0 0) = cb l ++ [.int .u8 128] := by rw [List.replicate_zero, List.append_nil, cb_append]; rfl
    rw [e]; exact hown2
  clear hown2 hb1
  go_loopw [3] (fun v wr => ∃ k : Nat, k ≤ padZ l.length ∧ wr.ownsRow w.heap.size 5 1 v (l.length + 1 + k) (cb (l ++ [128] ++ List.replicate k 0)) ∧ Below w.heap.size w wr) (fun v _ => l.length + 1 + padZ l.length - lenOf v)
  case atStart => exact ⟨0, by omega, hown3, hb2⟩
  case round =>
    clear hown3 hb2
    obtain ⟨k, hk, hown, hb⟩ := hrel
    obtain ⟨A1, c1, rfl⟩ := own_form hown
    have hiff := padZ_iff l.length k hk
    have hbs := hb.size
    by_cases hlt : k < padZ l.length
    · have hq : ((((l.length : Int) + 1 + (k : Int)) % 64) != 56) = true := by simp; omega
      have HL : Hid (cb (l ++ [128] ++ List.replicate (k + 1) 0) = cb (l ++ [128] ++ List.replicate k 0) ++ [Value.int .u8 0]) := by
        unfold Hid
        rw [List.replicate_succ', ← List.append_assoc, cb_append (l ++ [128] ++ List.replicate k 0)]; rfl
      clear hiff
      go_wp2_with (at_builtin; refine wpList_append_own_at _ rfl _ _ 22 rfl w.heap.size 5 i0 (.int .u8 0) 1 1 Tryz.underlying22 hi hz0 hz1 hz2 rfl (by decide) _ _ _ rfl (hown.alloc _) ⟨wr.heap.size, 0, none⟩ 1 1 _ rfl rfl (cell_one_new _ _ _) (by simp [Value.oneCell']) (by unfold maxLen; omega) (by omega) (by simp; omega) ?_; intro v' w1 hown' hgrow hnil hat)
      have hb1 := below_app1 hb (Nat.le_refl _) hown hgrow
      obtain ⟨A2, c2, rfl⟩ := own_form hown'
      have HO := Lib.hid hown'
      clear hown' hgrow hnil hat hown
      go_wp2
      go_roundw
      case rel => exact ⟨k + 1, by omega, by rw [HL.out]; exact HO.out, hb1⟩
      case measure => simp [lenOf]; omega
    · obtain rfl : k = padZ l.length := by omega
      have hq : ((((l.length : Int) + 1 + (padZ l.length : Int)) % 64) != 56) = false := by simp; omega
      obtain ⟨w3, hw3⟩ : ∃ x, x = wr := ⟨wr, rfl⟩
      subst hw3
      have e8 : (l.length : Int) * 8 = ((8 * l.length : Nat) : Int) := by omega
      have E8 := Lib.hid e8
      have hwhole := pad_whole l.length
      rw [pad_len] at hwhole
      have HWH := Lib.hid hwhole
      clear hiff hk hlt e8 hwhole
      go_wp2_with fail
      rw [E8.out]
      refine (told_any (8 * l.length) 8 _ (by omega) (by omega)).mono ?_
      rintro e w4 ⟨A4, c4, rfl, hnew⟩
      rw [told8_rev] at hnew
      have hown4 := own_below hown hnew.below
      have hb4 := next hb hnew.below
      have hbs4 := hb4.size
      clear hown hb
      go_wp2_with (at_builtin; refine wpList_append_sl _ rfl _ _ 22 rfl w.heap.size 5 i0 (.int .u8 0) 1 Tryz.underlying22 hi hz0 hz1 hz2 rfl _ (l.length + 1 + padZ l.length) _ rfl hown4 _ A4 8 c4 (cb (told8 (8 * l.length))) rfl hnew.sl hnew.none_ (cb_one _) (by unfold maxLen; omega) (by omega) hb4.size ?_; intro v5 w5 hown5 hgrow5 hat5)
      have hb5 := below_app hb4 (Nat.le_refl _) hown4 hgrow5
      rw [← cb_append, padded_eq] at hown5
      clear hgrow5 hat5 hown4 hnew hb4 hbs4
      obtain ⟨gp, cp, rfl, hgp, hgpl⟩ := hown5.form (by omega)
      refine (first_any _).mono ?_
      rintro e w6 ⟨A6, c6, rfl, hown6, hb6⟩
      obtain ⟨g6, c6', e6, hg6, hg6l⟩ := hown6.form (by omega)
      injection e6 with e6 _ e6c
      subst e6; subst e6c
      have hp6 := own_below hown5 hb6
      have hbw6 := next hb5 hb6
      have hv6 := Sl.own hown6
      have hcap : l.length + 1 + padZ l.length + 8 ≤ cp := own_cap hown5
      clear hown5 hb5 hb6 hown6
      obtain ⟨N, hN⟩ : ∃ N, N = (l.length + (padZ l.length + 9)) / 64 := ⟨_, rfl⟩
      have hNL : 64 * N = l.length + 1 + padZ l.length + 8 := by rw [hN]; have := HWH.out; omega
      have HSHA : Hid (sha l = out (hs (padded l) N).list) := by unfold Hid sha; rw [padded_len, hN]
      have hNp : 64 * N = (padded l).length := by rw [padded_len]; omega
      have HNL := Lib.hid hNL
      have HNP := Lib.hid hNp
      have hle1 : l.length + 1 + padZ l.length + 8 ≤ 64 * N := by omega
      have hle2 : 64 * N ≤ l.length + 1 + padZ l.length + 8 := by omega
      clear hN hNL hNp HWH
      go_wp2
      go_loopw [4, 5] (fun v i wr => ∃ (k gv cv : Nat), k ≤ N ∧ i = .int .i64 (64 * (k : Int)) ∧ v = .slice (some ⟨gv, 0, none⟩) 8 cv ∧ Sl wr wr.heap.size (some ⟨gv, 0, none⟩) 8 (us (hs (padded l) k).list)
        ∧ wr.ownsRow w.heap.size 5 1 (.slice (some ⟨gp, 0, none⟩) (l.length + 1 + padZ l.length + 8) cp) (l.length + 1 + padZ l.length + 8) (cb (padded l)) ∧ Below w.heap.size w wr) (fun _ i _ => 64 * N - (intOf i).toNat)
      case atStart => exact ⟨0, g6, c6, by omega, rfl, rfl, hv6, hp6, hbw6⟩
      case round =>
        clear hv6 hp6 hbw6
        obtain ⟨k, gv, cv, hk, rfl, rfl, hv, hp, hb⟩ := hrel
        by_cases hlt : k < N
        · have hbs := hb.size
          have hps := Sl.own hp
          have HS : Hid (hs (padded l) (k + 1) = blk (hs (padded l) k) (((padded l).drop (64 * k)).take 64)) := (rfl : _ = _)
          have hok := hs_ok (padded l) k
          obtain ⟨r, hr⟩ : ∃ r, r = hs (padded l) k := ⟨_, rfl⟩
          rw [← hr] at hv HS hok
          clear hr
          go_wp2_with (refine wpList_slice_lh rfl 22 _ _ _ rfl 5 Tryz.underlying22 u8_size (some ⟨gp, 0, none⟩) (l.length + 1 + padZ l.length + 8) cp (64 * k) (64 * k + 64) .i64 .i64 _ _ rfl rfl rfl (by omega) (by omega) (by omega) (by omega) (by intro h; cases h) ?_; intro A7 HA7)
          have hsl7 := sl_mid (l := 64 * k) (h := 64 * k + 64) hps (by omega) (by omega) hcap
          rw [← HA7.out, ← cb_slice] at hsl7
          have e64 : 64 * k + 64 - 64 * k = 64 := by omega
          rw [e64] at hsl7
          refine (rblock_any r (((padded l).drop (64 * k)).take 64) _ _ gv cv A7 _ hv hok hsl7 (Nat.le_refl _) (by omega) (by intro h; rw [h] at hsl7; obtain ⟨_, e, _⟩ := hsl7.2 (by omega); cases e)).mono ?_
          rintro e w8 ⟨A8, c8, rfl, hown8, hb8⟩
          obtain ⟨g8, c8', e8', hg8, hg8l⟩ := hown8.form (by omega)
          injection e8' with e8' _ e8c
          subst e8'; subst e8c
          have hp8 := own_below hp hb8
          have hbw8 := next hb hb8
          have hv8 := Sl.own hown8
          rw [← HS.out] at hv8
          clear hv hok hps hsl7 e64 hp hb hown8 hb8
          go_wp2
          go_roundw
          case rel => exact ⟨k + 1, g8, c8, by omega, by go_num, rfl, hv8, hp8, hbw8⟩
          case measure => simp [intOf]; omega
        · obtain rfl : k = N := by omega
          obtain ⟨w9, hw9⟩ : ∃ x, x = wr := ⟨wr, rfl⟩
          subst hw9
          have hbs9 := hb.size
          obtain ⟨r, hr⟩ : ∃ r, r = hs (padded l) k := ⟨_, rfl⟩
          have hok := hs_ok (padded l) k
          rw [← hr] at hv HSHA hok
          have HOK := Lib.hid hok
          have HSHL := Lib.hid (sha_len l)
          clear hr hok hp
          go_wp2
          go_loopw [6, 7] (fun o i wr => ∃ j : Nat, j ≤ 8 ∧ i = .int .i64 j ∧ wr.ownsRow w9.heap.size 5 1 o (4 * j) (cb ((sha l).take (4 * j))) ∧ Below w9.heap.size w9 wr) (fun _ i _ => 8 - (intOf i).toNat)
          case atStart => exact ⟨0, by omega, rfl, World.ownsRow_nil _ _ _ _, Below.refl _ _⟩
          case round =>
            obtain ⟨j, hj, rfl, hown, hbj⟩ := hrel
            by_cases hltj : j < 8
            · have hvj := hv.below hbj
              have cr := hvj.cell0 (us_at (l := r.list) (j := j) (by rw [show r.list.length = 8 from rfl]; exact hltj))
              obtain ⟨x, hx⟩ : ∃ x, x = r.list.getD j 0 := ⟨_, rfl⟩
              rw [← hx] at cr
              have hxl : x < 4294967296 := by
                rw [hx]
                obtain ⟨h1, h2, h3, h4, h5, h6, h7, h8⟩ := HOK.out
                exact getD_lt32 (l := r.list) (by intro y hy; simp only [W8.list, List.mem_cons, List.not_mem_nil, or_false] at hy; rcases hy with rfl | rfl | rfl | rfl | rfl | rfl | rfl | rfl <;> assumption) j
              have HT : Hid ((sha l).take (4 * (j + 1)) = (sha l).take (4 * j) ++ stored x false) := by unfold Hid; rw [HSHA.out, out_take r.list j hltj, hx]
              have hbjs := hbj.size
              clear hx hvj
              go_wp2_with fail
              refine (rstore_any x false _ hxl).mono ?_
              rintro e w10 ⟨A10, c10, rfl, hnew⟩
              have hown10 := own_below hown hnew.below
              have hb10 := next hbj hnew.below
              clear hown hbj cr
              go_wp2_with (at_builtin; refine wpList_append_sl _ rfl _ _ 22 rfl w9.heap.size 5 i0 (.int .u8 0) 1 Tryz.underlying22 hi hz0 hz1 hz2 rfl _ (4 * j) _ rfl hown10 _ A10 4 c10 (cb (stored x false)) rfl hnew.sl hnew.none_ (cb_one _) (by unfold maxLen; omega) (by omega) hb10.size ?_; intro v11 w11 hown11 hgrow11 hat11)
              have hb11 := below_app hb10 (Nat.le_refl _) hown10 hgrow11
              rw [← cb_append, ← HT.out] at hown11
              clear hgrow11 hat11 hown10 hnew hb10
              go_wp2
              go_roundw
              case rel => exact ⟨j + 1, by omega, by go_num, by rw [show 4 * (j + 1) = 4 * j + 4 by omega] at hown11 ⊢; exact hown11, hb11⟩
              case measure => simp [intOf]; omega
            · obtain rfl : j = 8 := by omega
              go_wp2
              go_ret
              exact retBytes rfl (by rw [List.take_of_length_le (by rw [HSHL.out]; omega)]) (own_down hown hbs9) (hb.trans (hbj.mono hbs9))

end Go.Proofs.YtlnoopmblmkgkaaGreatDoor
