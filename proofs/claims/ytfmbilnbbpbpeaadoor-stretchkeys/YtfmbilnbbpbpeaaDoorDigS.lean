/- words of layer 2's reference. -/
import Derived.Test.YtfmbilnbbpbpeaaDoorDigR
namespace Go.Proofs.YtfmbilnbbpbpeaaDoor
open Go.RowKit

/-- append onto a slice of the call's own, as a step of a region that draws its order. -/
theorem step_append_own {P : Program} {ops : Array Oper} {o : Oper} {a : Act} {w : World} {K : Act → World → Prop} {Q : Exit → Act → World → Prop} {E : Prop} (hgd : o.guard = none) (s x : Operand) (t : TypeId)
    (ho : o.op = .call { callee := .builtin .append, args := #[s, x], argTypes := #[t, t] })
    (base : Nat) (e : TypeId) (i : TypeInfo) (z : Value) (bytes : Nat) (ht : P.underlying t = some (.slice e)) (hi : P.info? e = some i) (hz : i.zero = some z)
    (hsize : i.size = 1) (hby : i.bytes = bytes) (hzs : z.cells.size = 1)
    (v : Value) (n : Nat) (xs : List Value) (hs : a.eval s = v) (hown : w.ownsRow base e 1 v n xs)
    (ad : Addr) (m c : Nat) (news : List Value) (hx : a.eval x = .slice (some ad) m c) (hl : news.length = m) (hnews : ∀ j u, news[j]? = some u → w.cell? (ad.add j) = some u) (h1 : ∀ u ∈ news, u.oneCell' = true)
    (h63 : n + m ≤ maxLen) (hbytes : (n + m) * bytes ≤ 140737488355328) (hbase : base ≤ w.heap.size)
    (h : ∀ v' w', w'.ownsRow base e 1 v' (n + m) (xs ++ news) → w.grownBy w' v.ownBlock → K (a.put o.dst v') w') : if Region.wanted o (yielded ops a.tmps) = true then Oper.wp P o a w K Q else E := by
  have hw : Region.wanted o (yielded ops a.tmps) = true := by simp [Region.wanted, hgd]
  rw [if_pos hw]
  obtain ⟨v', w', hr, h2, h3, _⟩ := run_append_own_at (P := P) w base t o.type e i z 1 bytes ht hi hz hsize hby hzs (by omega) v n xs hown ad m c news (by omega) hnews h1 h63 hbytes hbase
  unfold Oper.wp execOp
  simp only [ho, resolve, invoke, builtin, Sem.run_bind, Sem.run_pure, Result.andThen_ok, List.map_toArray, List.map_cons, List.map_nil, hs, hx, hr]
  exact h v' w' h2 h3

theorem own_u32 {w : World} {base g n cap : Nat} {e : TypeId} {l : List Nat} (h : w.ownsRow base e 1 (.slice (some ⟨g, 0, none⟩) n cap) n (us l)) (hl : l.length = n) {j : Nat} (hj : j < n) : w.cell? ⟨g, j, none⟩ = some (.int .u32 (l.getD j 0 : Nat)) := by
  rw [h.cellAt j (by omega), us_at (by omega)]

theorem wrap3 (a b c d : Nat) : IntKind.u32.wrap (IntKind.u32.wrap (IntKind.u32.wrap ((a : Int) + (b : Int)) + (c : Int)) + (d : Int)) = (((a + b + c + d) % 4294967296 : Nat) : Int) := by
  simp only [IntKind.wrap_u32]; omega

set_option linter.unusedSimpArgs false in
set_option maxRecDepth 100000 in
set_option maxHeartbeats 1000000 in
theorem rwords_any (b : List UInt8) (w : World) (B : Nat) (A : Option Addr) (c : Nat) (h : Sl w B A 64 (cb b)) (hB : B ≤ w.heap.size) (hc : 64 ≤ c) (hA : A = none → c = 0) :
    Calls Tryd.prog 32 #[.slice A 64 c] w (RetRow 40 w 64 (us (ws b 64))) := by
  obtain ⟨i0, hi, hz0, hz1, hz2⟩ := info_parts u32_info
  have hb64 : b.length = 64 := by rw [← cb_len]; exact h.1
  have HB64 := Lib.hid hb64
  clear hb64
  go_enter Tryd.func32, Tryd.ntmps32
  go_wp2
  go_loopw [3, 4] (fun v i wr => ∃ k : Nat, k ≤ 16 ∧ i = .int .i64 k ∧ wr.ownsRow w.heap.size 40 1 v k (us (ws b k)) ∧ Below w.heap.size w wr) (fun _ i _ => 16 - (intOf i).toNat)
  case atStart => exact ⟨0, by omega, rfl, World.ownsRow_nil _ _ _ _, Below.refl _ _⟩
  case round =>
    obtain ⟨k, hk, rfl, hown, hbel⟩ := hrel
    by_cases hlt : k < 16
    · have HS : Hid (us (ws b (k + 1)) = us (ws b k) ++ [.int .u32 (wd b k : Nat)]) := by unfold Hid; rw [ws_low b k hlt, us_append]; rfl
      have hsl := h.below (hbel.mono hB)
      have hbs := hbel.size
      go_wp2_with (refine wpList_slice_lh rfl 22 _ _ _ rfl 5 Tryd.underlying22 u8_size A 64 c (4 * k) (4 * k + 4) .i64 .i64 _ _ rfl rfl rfl (by omega) (by omega) (by omega) (by omega) hA ?_; intro A2 HA2)
      have hsl2 := sl_mid (l := 4 * k) (h := 4 * k + 4) hsl (by omega) (by omega) hc
      rw [← HA2.out, ← cb_slice] at hsl2
      have e4 : 4 * k + 4 - 4 * k = 4 := by omega
      rw [e4] at hsl2
      refine (rload_any ((b.drop (4 * k)).take 4) false _ _ _ _ _ hsl2 (by decide) (Nat.le_trans hB hbs)).mono ?_
      rintro e w1 ⟨rfl, hb1⟩
      have hown1 := own_below hown hb1
      have hbel1 := hbel.trans (hb1.mono hbs)
      have hbs1 := hbel1.size
      have HW : Hid (loadV ((b.drop (4 * k)).take 4) false = wd b k) := (rfl : _ = _)
      rw [HW.out]
      clear hown hbel hb1 hsl hsl2 e4
      go_wp2_with (at_builtin; refine wpList_append_own_at _ rfl _ _ 52 rfl w.heap.size 40 i0 (.int .u32 0) 1 4 Tryd.underlying52 hi hz0 hz1 hz2 rfl (by decide) _ _ _ rfl (hown1.alloc _) ⟨w1.heap.size, 0, none⟩ 1 1 _ rfl rfl (cell_one_new _ _ _) (by simp [Value.oneCell']) (by unfold maxLen; omega) (by omega) (by simp; omega) ?_; intro v' w2 hown' hgrow hnil hat)
      have hb2 := below_app1 hbel1 (Nat.le_refl _) hown1 hgrow
      have HO := Lib.hid hown'
      clear hown' hgrow hnil hat hown1
      go_wp2
      go_roundw
      case rel => exact ⟨k + 1, by omega, by go_num, by rw [HS.out]; exact HO.out, hb2⟩
      case measure => simp [intOf]; omega
    · have HK : Hid (k = 16) := (by omega : k = 16)
      rw [HK.out] at hown
      clear h
      go_wp2
      go_loopw [3, 7] (fun v i wr => ∃ k : Nat, 16 ≤ k ∧ k ≤ 64 ∧ i = .int .i64 k ∧ wr.ownsRow w.heap.size 40 1 v k (us (ws b k)) ∧ Below w.heap.size w wr) (fun _ i _ => 64 - (intOf i).toNat)
      case atStart => exact ⟨16, by omega, by omega, rfl, hown, hbel⟩
      case round =>
        clear hown hbel
        obtain ⟨t, ht16, ht, rfl, hown, hb⟩ := hrel
        by_cases hlt2 : t < 64
        · have hwl := ws_lt b t
          obtain ⟨gg, cap, rfl, hgg, hggl⟩ := hown.form (by omega)
          obtain ⟨p, hp⟩ : ∃ p, p = (ws b t).getD (t - 2) 0 := ⟨_, rfl⟩
          obtain ⟨q, hq⟩ : ∃ q, q = (ws b t).getD (t - 7) 0 := ⟨_, rfl⟩
          obtain ⟨r, hr⟩ : ∃ r, r = (ws b t).getD (t - 15) 0 := ⟨_, rfl⟩
          obtain ⟨z, hz⟩ : ∃ z, z = (ws b t).getD (t - 16) 0 := ⟨_, rfl⟩
          have lp : p < 4294967296 := by rw [hp]; exact getD_lt32 hwl _
          have lq : q < 4294967296 := by rw [hq]; exact getD_lt32 hwl _
          have lr : r < 4294967296 := by rw [hr]; exact getD_lt32 hwl _
          have lz : z < 4294967296 := by rw [hz]; exact getD_lt32 hwl _
          have cp : wr.cell? ⟨gg, t - 2, none⟩ = some (.int .u32 (p : Int)) := by rw [own_u32 hown (ws_len b t) (by omega), hp]
          have cq : wr.cell? ⟨gg, t - 7, none⟩ = some (.int .u32 (q : Int)) := by rw [own_u32 hown (ws_len b t) (by omega), hq]
          have cr : wr.cell? ⟨gg, t - 15, none⟩ = some (.int .u32 (r : Int)) := by rw [own_u32 hown (ws_len b t) (by omega), hr]
          have cz : wr.cell? ⟨gg, t - 16, none⟩ = some (.int .u32 (z : Int)) := by rw [own_u32 hown (ws_len b t) (by omega), hz]
          have HX : Hid (nxt (ws b t) t = (ss1 p + q + ss0 r + z) % 4294967296) := by unfold Hid nxt; rw [hp, hq, hr, hz]
          have HS : Hid (us (ws b (t + 1)) = us (ws b t) ++ [.int .u32 (nxt (ws b t) t : Nat)]) := by unfold Hid; rw [ws_high b t ht16, us_append]; rfl
          have E1 := ss1_eq p lp
          have E0 := ss0_eq r lr
          clear hp hq hr hz hwl
          go_wp2_with fail
          refine (right_open p 17 _ lp (by decide) (by decide)).mono ?_
          rintro e w' ⟨rfl, rfl⟩
          rw [show rK 17 = 15 by decide]
          go_wp2_with fail
          refine (right_open p 19 _ lp (by decide) (by decide)).mono ?_
          rintro e w' ⟨rfl, rfl⟩
          rw [show rK 19 = 13 by decide]
          go_wp2_with fail
          refine (down_lit p 10 10 1024 _ lp rfl (by decide) (by decide)).mono ?_
          rintro e w' ⟨rfl, rfl⟩
          go_wp2_with fail
          refine (right_open r 7 _ lr (by decide) (by decide)).mono ?_
          rintro e w' ⟨rfl, rfl⟩
          rw [show rK 7 = 25 by decide]
          go_wp2_with fail
          refine (right_open r 18 _ lr (by decide) (by decide)).mono ?_
          rintro e w' ⟨rfl, rfl⟩
          rw [show rK 18 = 14 by decide]
          go_wp2_with fail
          refine (down_lit r 3 3 8 _ lr rfl (by decide) (by decide)).mono ?_
          rintro e w' ⟨rfl, rfl⟩
          go_wp2_with fail
          have hbs := hb.size
          have n7 : (0 : Int) ≤ (t : Int) - 7 := by omega
          have n16 : (0 : Int) ≤ (t : Int) - 16 := by omega
          have s7 : (7 : Int) ≤ (t : Int) := by omega
          have s16 : (16 : Int) ≤ (t : Int) := by omega
          have m7 : (t : Int) - 7 < (t : Int) := by omega
          have m16 : (t : Int) - 16 < (t : Int) := by omega
          have i7 : ((t : Int) - 7).toNat = t - 7 := by omega
          have i16 : ((t : Int) - 16).toNat = t - 16 := by omega
          have x7 : IntKind.i64.wrap ((t : Int) - 7) = (t : Int) - 7 := IntWalk.i64_in _ (by omega)
          have x16 : IntKind.i64.wrap ((t : Int) - 16) = (t : Int) - 16 := IntWalk.i64_in _ (by omega)
          clear cp cr E1 E0 lp lr
          go_region_law (refine step_append_own rfl _ _ 52 rfl w.heap.size 40 i0 (.int .u32 0) 4 Tryd.underlying52 hi hz0 hz1 hz2 rfl _ _ _ rfl (hown.alloc _) ⟨wr.heap.size, 0, none⟩ 1 1 _ rfl rfl (cell_one_new _ _ _) (by simp [Value.oneCell']) (by unfold maxLen; omega) (by omega) (by simp; omega) ?_; intro v' w2 hown' hgrow)
          all_goals
            simp only [List.getElem_toArray, List.getElem_cons_succ, List.getElem_cons_zero, Act.put, List.setIfInBounds_toArray, List.set_cons_zero, List.set_cons_succ]
            have hb2 := below_app1 hb.drew (Nat.le_refl _) hown hgrow
            have HO := Lib.hid hown'
            clear hown' hgrow hown cq cz x7 x16 i7 i16 n7 n16 s7 s16 m7 m16
            go_wp2
            go_roundw
            case rel =>
              have hfin := HO.out
              rw [wrap3, ← HX.out, ← HS.out] at hfin
              exact ⟨t + 1, by omega, by omega, by go_num, hfin, hb2⟩
            case measure => simp [intOf]; omega
        · have HK2 : Hid (t = 64) := (by omega : t = 64)
          go_wp2
          go_ret
          exact retRow HK2.out (by rw [HK2.out]) hown hb

end Go.Proofs.YtfmbilnbbpbpeaaDoor

