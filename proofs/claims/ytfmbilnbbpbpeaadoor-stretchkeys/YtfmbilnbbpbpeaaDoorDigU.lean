/- Of and Join of layer 2's reference. -/
import Derived.Test.YtfmbilnbbpbpeaaDoorDigT
namespace Go.Proofs.YtfmbilnbbpbpeaaDoor
open Go.RowKit

theorem told8_rev (x : Nat) : (le x 8).reverse = told8 x := rfl
theorem padded_eq (l : List UInt8) : (l ++ [128] ++ List.replicate (padZ l.length) 0) ++ told8 (8 * l.length) = padded l := by simp [padded, pad]
theorem padded_len (l : List UInt8) : (padded l).length = l.length + (padZ l.length + 9) := by unfold padded; rw [List.length_append, pad_len]
theorem out_take (l : List Nat) (j : Nat) (h : j < l.length) : (out l).take (4 * (j + 1)) = (out l).take (4 * j) ++ stored (l.getD j 0) false := by
  rw [show 4 * (j + 1) = 4 * j + 4 by omega, List.take_add, out_part l j h]

set_option linter.unusedSimpArgs false in
set_option maxRecDepth 100000 in
set_option maxHeartbeats 1000000 in
theorem rof_any (l : List UInt8) (w : World) (B : Nat) (A : Option Addr) (n c : Nat) (h : Sl w B A n (cb l)) (hA : A = none → c = 0) (hB : B ≤ w.heap.size) (hm : n ≤ 100000000) :
    Calls Tryd.prog 16 #[.slice A n c] w (RetBytes 5 w 32 (sha l)) := by
  obtain ⟨i0, hi, hz0, hz1, hz2⟩ := info_parts u8_info
  have hn : n = l.length := by rw [← h.1, cb_len]
  subst hn
  have hz := padZ_lt l.length
  have h0 := World.ownsRow_lit (base := w.heap.size) (e := 5) (size := 1) w #[] 0 (Nat.le_refl _) (by decide) rfl
  go_enter Tryd.func16, Tryd.ntmps16
  go_wp2_with (first
    | (at_builtin; refine wpList_append_sl _ rfl _ _ 22 rfl w.heap.size 5 i0 (.int .u8 0) 1 Tryd.underlying22 hi hz0 hz1 hz2 rfl _ 0 [] rfl h0 B A l.length c (cb l) rfl (h.alloc hB _) hA (cb_one l) (by unfold maxLen; omega) (by omega) (by simp) ?_; intro v1 w1 hown1 hgrow1 hat1; have hb1 : Below w.heap.size w w1 := below_app ((Below.refl w.heap.size w).alloc (Nat.le_refl _) _) (Nat.le_refl _) h0 hgrow1; have hbs1 := hb1.size)
    | (at_builtin; refine wpList_append_own_at _ rfl _ _ 22 rfl w.heap.size 5 i0 (.int .u8 0) 1 1 Tryd.underlying22 hi hz0 hz1 hz2 rfl (by decide) _ _ _ rfl (hown1.alloc _) ⟨w1.heap.size, 0, none⟩ 1 1 _ rfl rfl (cell_one_new _ _ _) (by simp [Value.oneCell']) (by unfold maxLen; omega) (by omega) (by simp; omega) ?_; intro v2 w2 hown2 hgrow2 hnil2 hat2; have hb2 := below_app1 hb1 (Nat.le_refl _) hown1 hgrow2))
  clear hgrow1 hat1 hgrow2 hnil2 hat2 h0 hown1 hbs1
  rw [List.nil_append, Nat.zero_add] at hown2
  have hown3 : w2.ownsRow w.heap.size 5 1 v2 (l.length + 1 + 0) (cb (l ++ [128] ++ List.replicate 0 0)) := by
    have e : cb (l ++ [128] ++ List.replicate 0 0) = cb l ++ [.int .u8 128] := by rw [List.replicate_zero, List.append_nil, cb_append]; rfl
    rw [e]; exact hown2
  clear hown2 hb1
  go_loopw [3] (fun v wr => ∃ k : Nat, k ≤ padZ l.length ∧ wr.ownsRow w.heap.size 5 1 v (l.length + 1 + k) (cb (l ++ [128] ++ List.replicate k 0)) ∧ Below w.heap.size w wr) (fun v _ => l.length + 1 + padZ l.length - lenOf v)
  case atStart => exact ⟨0, by omega, hown3, hb2⟩
  case round =>
    clear hown3 hb2
    obtain ⟨k, hk, hown, hb⟩ := hrel
    obtain ⟨A1, c1, rfl⟩ := own_form hown
    have hiff := padZ_iff l.length k hk
    have hbs := hb.size
    by_cases hlt : k < padZ l.length
    · have hq : ((((l.length : Int) + 1 + (k : Int)) % 64) != 56) = true := by simp; omega
      have HL : Hid (cb (l ++ [128] ++ List.replicate (k + 1) 0) = cb (l ++ [128] ++ List.replicate k 0) ++ [Value.int .u8 0]) := by
        unfold Hid
        rw [List.replicate_succ', ← List.append_assoc, cb_append (l ++ [128] ++ List.replicate k 0)]; rfl
      clear hiff
      go_wp2_with (at_builtin; refine wpList_append_own_at _ rfl _ _ 22 rfl w.heap.size 5 i0 (.int .u8 0) 1 1 Tryd.underlying22 hi hz0 hz1 hz2 rfl (by decide) _ _ _ rfl (hown.alloc _) ⟨wr.heap.size, 0, none⟩ 1 1 _ rfl rfl (cell_one_new _ _ _) (by simp [Value.oneCell']) (by unfold maxLen; omega) (by omega) (by simp; omega) ?_; intro v' w1 hown' hgrow hnil hat)
      have hb1 := below_app1 hb (Nat.le_refl _) hown hgrow
      obtain ⟨A2, c2, rfl⟩ := own_form hown'
      have HO := Lib.hid hown'
      clear hown' hgrow hnil hat hown
      go_wp2
      go_roundw
      case rel => exact ⟨k + 1, by omega, by rw [HL.out]; exact HO.out, hb1⟩
      case measure => simp [lenOf]; omega
    · obtain rfl : k = padZ l.length := by omega
      have hq : ((((l.length : Int) + 1 + (padZ l.length : Int)) % 64) != 56) = false := by simp; omega
      obtain ⟨w3, hw3⟩ : ∃ x, x = wr := ⟨wr, rfl⟩
      subst hw3
      have e8 : (l.length : Int) * 8 = ((8 * l.length : Nat) : Int) := by omega
      have E8 := Lib.hid e8
      have hwhole := pad_whole l.length
      rw [pad_len] at hwhole
      have HWH := Lib.hid hwhole
      clear hiff hk hlt e8 hwhole
      go_wp2_with fail
      rw [E8.out]
      refine (told_any (8 * l.length) 8 _ (by omega) (by omega)).mono ?_
      rintro e w4 ⟨A4, c4, rfl, hnew⟩
      rw [told8_rev] at hnew
      have hown4 := own_below hown hnew.below
      have hb4 := next hb hnew.below
      have hbs4 := hb4.size
      clear hown hb
      go_wp2_with (at_builtin; refine wpList_append_sl _ rfl _ _ 22 rfl w.heap.size 5 i0 (.int .u8 0) 1 Tryd.underlying22 hi hz0 hz1 hz2 rfl _ (l.length + 1 + padZ l.length) _ rfl hown4 _ A4 8 c4 (cb (told8 (8 * l.length))) rfl hnew.sl hnew.none_ (cb_one _) (by unfold maxLen; omega) (by omega) hb4.size ?_; intro v5 w5 hown5 hgrow5 hat5)
      have hb5 := below_app hb4 (Nat.le_refl _) hown4 hgrow5
      rw [← cb_append, padded_eq] at hown5
      clear hgrow5 hat5 hown4 hnew hb4 hbs4
      obtain ⟨gp, cp, rfl, hgp, hgpl⟩ := hown5.form (by omega)
      refine (first_any _).mono ?_
      rintro e w6 ⟨A6, c6, rfl, hown6, hb6⟩
      obtain ⟨g6, c6', e6, hg6, hg6l⟩ := hown6.form (by omega)
      injection e6 with e6 _ e6c
      subst e6; subst e6c
      have hp6 := own_below hown5 hb6
      have hbw6 := next hb5 hb6
      have hv6 := Sl.own hown6
      have hcap : l.length + 1 + padZ l.length + 8 ≤ cp := own_cap hown5
      clear hown5 hb5 hb6 hown6
      obtain ⟨N, hN⟩ : ∃ N, N = (l.length + (padZ l.length + 9)) / 64 := ⟨_, rfl⟩
      have hNL : 64 * N = l.length + 1 + padZ l.length + 8 := by rw [hN]; have := HWH.out; omega
      have HSHA : Hid (sha l = out (hs (padded l) N).list) := by unfold Hid sha; rw [padded_len, hN]
      have hNp : 64 * N = (padded l).length := by rw [padded_len]; omega
      have HNL := Lib.hid hNL
      have HNP := Lib.hid hNp
      have hle1 : l.length + 1 + padZ l.length + 8 ≤ 64 * N := by omega
      have hle2 : 64 * N ≤ l.length + 1 + padZ l.length + 8 := by omega
      clear hN hNL hNp HWH
      go_wp2
      go_loopw [4, 5] (fun v i wr => ∃ (k gv cv : Nat), k ≤ N ∧ i = .int .i64 (64 * (k : Int)) ∧ v = .slice (some ⟨gv, 0, none⟩) 8 cv ∧ Sl wr wr.heap.size (some ⟨gv, 0, none⟩) 8 (us (hs (padded l) k).list)
        ∧ wr.ownsRow w.heap.size 5 1 (.slice (some ⟨gp, 0, none⟩) (l.length + 1 + padZ l.length + 8) cp) (l.length + 1 + padZ l.length + 8) (cb (padded l)) ∧ Below w.heap.size w wr) (fun _ i _ => 64 * N - (intOf i).toNat)
      case atStart => exact ⟨0, g6, c6, by omega, rfl, rfl, hv6, hp6, hbw6⟩
      case round =>
        clear hv6 hp6 hbw6
        obtain ⟨k, gv, cv, hk, rfl, rfl, hv, hp, hb⟩ := hrel
        by_cases hlt : k < N
        · have hbs := hb.size
          have hps := Sl.own hp
          have HS : Hid (hs (padded l) (k + 1) = blk (hs (padded l) k) (((padded l).drop (64 * k)).take 64)) := (rfl : _ = _)
          have hok := hs_ok (padded l) k
          obtain ⟨r, hr⟩ : ∃ r, r = hs (padded l) k := ⟨_, rfl⟩
          rw [← hr] at hv HS hok
          clear hr
          go_wp2_with (refine wpList_slice_lh rfl 22 _ _ _ rfl 5 Tryd.underlying22 u8_size (some ⟨gp, 0, none⟩) (l.length + 1 + padZ l.length + 8) cp (64 * k) (64 * k + 64) .i64 .i64 _ _ rfl rfl rfl (by omega) (by omega) (by omega) (by omega) (by intro h; cases h) ?_; intro A7 HA7)
          have hsl7 := sl_mid (l := 64 * k) (h := 64 * k + 64) hps (by omega) (by omega) hcap
          rw [← HA7.out, ← cb_slice] at hsl7
          have e64 : 64 * k + 64 - 64 * k = 64 := by omega
          rw [e64] at hsl7
          refine (rblock_any r (((padded l).drop (64 * k)).take 64) _ _ gv cv A7 _ hv hok hsl7 (Nat.le_refl _) (by omega) (by intro h; rw [h] at hsl7; obtain ⟨_, e, _⟩ := hsl7.2 (by omega); cases e)).mono ?_
          rintro e w8 ⟨A8, c8, rfl, hown8, hb8⟩
          obtain ⟨g8, c8', e8', hg8, hg8l⟩ := hown8.form (by omega)
          injection e8' with e8' _ e8c
          subst e8'; subst e8c
          have hp8 := own_below hp hb8
          have hbw8 := next hb hb8
          have hv8 := Sl.own hown8
          rw [← HS.out] at hv8
          clear hv hok hps hsl7 e64 hp hb hown8 hb8
          go_wp2
          go_roundw
          case rel => exact ⟨k + 1, g8, c8, by omega, by go_num, rfl, hv8, hp8, hbw8⟩
          case measure => simp [intOf]; omega
        · obtain rfl : k = N := by omega
          obtain ⟨w9, hw9⟩ : ∃ x, x = wr := ⟨wr, rfl⟩
          subst hw9
          have hbs9 := hb.size
          obtain ⟨r, hr⟩ : ∃ r, r = hs (padded l) k := ⟨_, rfl⟩
          have hok := hs_ok (padded l) k
          rw [← hr] at hv HSHA hok
          have HOK := Lib.hid hok
          have HSHL := Lib.hid (sha_len l)
          clear hr hok hp
          go_wp2
          go_loopw [6, 7] (fun o i wr => ∃ j : Nat, j ≤ 8 ∧ i = .int .i64 j ∧ wr.ownsRow w9.heap.size 5 1 o (4 * j) (cb ((sha l).take (4 * j))) ∧ Below w9.heap.size w9 wr) (fun _ i _ => 8 - (intOf i).toNat)
          case atStart => exact ⟨0, by omega, rfl, World.ownsRow_nil _ _ _ _, Below.refl _ _⟩
          case round =>
            obtain ⟨j, hj, rfl, hown, hbj⟩ := hrel
            by_cases hltj : j < 8
            · have hvj := hv.below hbj
              have cr := hvj.cell0 (us_at (l := r.list) (j := j) (by rw [show r.list.length = 8 from rfl]; exact hltj))
              obtain ⟨x, hx⟩ : ∃ x, x = r.list.getD j 0 := ⟨_, rfl⟩
              rw [← hx] at cr
              have hxl : x < 4294967296 := by
                rw [hx]
                obtain ⟨h1, h2, h3, h4, h5, h6, h7, h8⟩ := HOK.out
                exact getD_lt32 (l := r.list) (by intro y hy; simp only [W8.list, List.mem_cons, List.not_mem_nil, or_false] at hy; rcases hy with rfl | rfl | rfl | rfl | rfl | rfl | rfl | rfl <;> assumption) j
              have HT : Hid ((sha l).take (4 * (j + 1)) = (sha l).take (4 * j) ++ stored x false) := by unfold Hid; rw [HSHA.out, out_take r.list j hltj, hx]
              have hbjs := hbj.size
              clear hx hvj
              go_wp2_with fail
              refine (rstore_any x false _ hxl).mono ?_
              rintro e w10 ⟨A10, c10, rfl, hnew⟩
              have hown10 := own_below hown hnew.below
              have hb10 := next hbj hnew.below
              clear hown hbj cr
              go_wp2_with (at_builtin; refine wpList_append_sl _ rfl _ _ 22 rfl w9.heap.size 5 i0 (.int .u8 0) 1 Tryd.underlying22 hi hz0 hz1 hz2 rfl _ (4 * j) _ rfl hown10 _ A10 4 c10 (cb (stored x false)) rfl hnew.sl hnew.none_ (cb_one _) (by unfold maxLen; omega) (by omega) hb10.size ?_; intro v11 w11 hown11 hgrow11 hat11)
              have hb11 := below_app hb10 (Nat.le_refl _) hown10 hgrow11
              rw [← cb_append, ← HT.out] at hown11
              clear hgrow11 hat11 hown10 hnew hb10
              go_wp2
              go_roundw
              case rel => exact ⟨j + 1, by omega, by go_num, by rw [show 4 * (j + 1) = 4 * j + 4 by omega] at hown11 ⊢; exact hown11, hb11⟩
              case measure => simp [intOf]; omega
            · obtain rfl : j = 8 := by omega
              go_wp2
              go_ret
              exact retBytes rfl (by rw [List.take_of_length_le (by rw [HSHL.out]; omega)]) (own_down hown hbs9) (hb.trans (hbj.mono hbs9))

end Go.Proofs.YtfmbilnbbpbpeaaDoor

