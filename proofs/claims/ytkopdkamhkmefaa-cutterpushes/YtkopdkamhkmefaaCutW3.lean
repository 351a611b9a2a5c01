/- The walk of the law CutterPushes. -/
import Derived.Test.YtkopdkamhkmefaaCutV
import Derived.Deep.CutRange
namespace Go.Proofs.Ytkopdkamhkmefaa
set_option maxRecDepth 100000
open Go Go.RowKit
set_option linter.unusedVariables false
set_option linter.unusedSimpArgs false

set_option maxRecDepth 100000 in
set_option maxHeartbeats 4000000 in
theorem cutterPushes_walk (v0 : Value) (A1 : Option Addr) (n1 c1 : Nat) (l1 : List UInt8) (w : World) (h0 : CutIn w v0) (s1 : InBytes w A1 n1 c1 l1) :
    Calls Try.prog 5 #[v0, .slice A1 n1 c1] w fun e w' => e = .returned (.bool true) ∧ Below w.heap.size w w' := by
  obtain ⟨p, k, mn, mx, rfl, hp, hk, _, _⟩ := h0
  obtain ⟨W0, HW0, b0, hb0, _⟩ := put_f w (cutC p k mn mx) 24
  have y1 : By W0 A1 n1 c1 l1 := s1.bys.nx hb0
  have z1 := s1.none_
  have e1 := s1.len
  have y0 : By w A1 n1 c1 l1 := s1.bys
  clear s1
  have AW := Lib.hid awake14_any
  by_cases hbig : n1 ≤ 600
  · have q1 : ¬ (600 : Int) < (n1 : Int) := by omega
    have HE1 := Lib.hid e1
    clear e1
    rcases hok : cutOk p mn mx with _ | _
    · have HOK := Lib.hid hok
      clear hok
      go_enter Try.func5, Try.ntmps5
      go_wp2_with (first
        | (refine wpList_box_agg rfl 24 _ rfl (cutC p k mn mx) rfl ?_; rw [HW0.out])
        | (refine wpList_load_mid rfl 24 _ rfl w.heap.size 0 rfl (cutC p k mn mx) _ b0.whole Try.underlying24 rfl size_cut ?_)
        | fail)
      refine (cnew_bad p k mn mx W0 hp HOK.out).mono ?_
      rintro e w1 ⟨rfl, hb1⟩
      have b1 := b0.next hb1
      replace hb0 := next hb0 hb1
      clear hb1
      go_wp2_with (first
        | (refine wpList_load_mid rfl 24 _ rfl w.heap.size 0 rfl (cutC p k mn mx) _ b1.whole Try.underlying24 rfl size_cut ?_)
        | fail)
      refine (rright14_any p k mn mx w1 hp).mono ?_
      rintro e w2 ⟨rfl, hb2⟩
      rw [HOK.out]
      replace hb0 := next hb0 hb2
      clear hb2
      go_wp2_with (first
        | (go_at_call 18; refine (ncpush_any _ _).mono ?_; rintro e w10 ⟨rfl, rfl⟩)
        | (go_at_call 19; refine (ncopen_any _).mono ?_; rintro e w10 ⟨rfl, rfl⟩)
        | (go_at_call 8; refine (AW.out _).mono ?_; rintro e w10 ⟨rfl, hb10⟩)
        | fail)
      go_ret
      exact ⟨rfl, next hb0 hb10⟩
    · obtain ⟨k0, k1, k2, k3⟩ := cutOk_of hok
      obtain ⟨a, rfl⟩ := Int.eq_ofNat_of_zero_le (show 0 ≤ mn by omega)
      obtain ⟨b, rfl⟩ := Int.eq_ofNat_of_zero_le (show 0 ≤ mx by omega)
      obtain ⟨d, hd, hd9, hd53, hdn, hpos⟩ := rolOk_deg k0 hp
      obtain ⟨L, hL⟩ : ∃ L, L = cutL p d k a b (l1 ++ [0]) := ⟨_, rfl⟩
      have HL := Lib.hid hL
      have hLl : L.length ≤ 1000000 := by rw [hL]; have := cutL_sum p d k a b (l1 ++ [0]); have := HE1.out; simp at *; omega
      have HOK := Lib.hid hok
      have HD := Lib.hid hd
      have ha1 : 1 ≤ a := by omega
      have hab : a ≤ b := by omega
      have hb4 : b ≤ 4096 := by omega
      obtain ⟨i0, hi, hz0, hz1, hz2⟩ := info_parts u8_info
      clear hL hok hd hdn k1 k2 k3
      go_enter Try.func5, Try.ntmps5
      go_wp2_with (first
        | (refine wpList_box_agg rfl 24 _ rfl (cutC p k (a : Int) (b : Int)) rfl ?_; rw [HW0.out])
        | (refine wpList_load_mid rfl 24 _ rfl w.heap.size 0 rfl (cutC p k (a : Int) (b : Int)) _ b0.whole Try.underlying24 rfl size_cut ?_)
        | fail)
      refine (cnew_ok p k a b d W0 hp hk HD.out HOK.out).mono ?_
      rintro e w1 ⟨g, own, rfl, hgo, hck, hb1⟩
      have b1 := b0.next hb1
      replace y1 := y1.nx hb1
      have hbw := next hb0 hb1
      have HGO : Hid (∀ j, j ∈ own → w.heap.size + 1 ≤ j) := by unfold Hid; intro j hj; have h1 := hgo j hj; have h2 := b0.lt; omega
      have HCK := Lib.hid hck
      clear hb1 hgo hb0 hck
      go_wp2_with (first
        | (refine wpList_load_mid rfl 24 _ rfl w.heap.size 0 rfl (cutC p k (a : Int) (b : Int)) _ b1.whole Try.underlying24 rfl size_cut ?_)
        | fail)
      refine (rright14_any p k (a : Int) (b : Int) w1 hp).mono ?_
      rintro e w2 ⟨rfl, hb2⟩
      rw [HOK.out]
      have b2 := b1.next hb2
      replace y1 := y1.nx hb2
      have hck2 := HCK.out.next hb2
      replace hbw := next hbw hb2
      clear hb2 HCK b1
      go_upto_region 8 with fail
      have HCK := Lib.hid hck2
      have HBW := Lib.hid hbw
      have hlt : w.heap.size < w2.heap.size := b2.lt
      go_cut [7] from 50 (fun v wx => ∃ X cx, v = .slice X L.length cx ∧ Sl wx wx.heap.size X L.length (is L) ∧ (∀ ad, X = some ad → w2.heap.size ≤ ad.block) ∧ Below w2.heap.size w2 wx)
      case first =>
        obtain ⟨S, hSd⟩ : ∃ S : World → Prop, S = fun w' => ∀ j v, (cutC p k (a : Int) (b : Int))[j]? = some v → w'.cell? ((⟨w.heap.size, 0, none⟩ : Addr).add j) = some v := ⟨_, rfl⟩
        have HSI : Hid (∀ w', Below w2.heap.size w2 w' → S w') := by
          unfold Hid; intro w' hb; rw [hSd]
          exact fun j v hv => by rw [Addr.add_mid]; exact (b2.next hb).whole j v hv
        have HS0 : Hid (∀ w', S w' → ∀ j v, (cutC p k (a : Int) (b : Int))[j]? = some v → w'.cell? ((⟨w.heap.size, 0, none⟩ : Addr).add j) = some v) := by unfold Hid; intro w' h; rw [hSd] at h; exact h
        clear hSd
        have hbd : Below w2.heap.size w2 w2.drew := (Below.refl _ w2).drew
        have hS := HSI.out _ hbd
        refine wp_region_held_drew (S := S) (by kernel_rfl) hS (fun _ => ?_)
        refine wpAnyH_take (i := 0) (v := .agg (cutC p k (a : Int) (b : Int)).toArray) rfl (by kernel_rfl) (by kernel_rfl) (by kernel_rfl) (fun _ _ _ h => h) (Or.inl ⟨by rfl, fun w' hSw => exec_load_at w' 24 _ rfl ⟨w.heap.size, 0, none⟩ rfl (cutC p k (a : Int) (b : Int)) _ (HS0.out w' hSw) Try.underlying24 rfl size_cut⟩) hS ?_
        simp only [List.getElem_toArray, List.getElem_cons_succ, List.getElem_cons_zero, Act.put, List.setIfInBounds_toArray, List.set_cons_zero, List.set_cons_succ]
        refine wpAnyH_take (i := 1) (v := (.slice A1 n1 c1)) rfl (by kernel_rfl) (by kernel_rfl) (by kernel_rfl) (fun _ _ _ h => h) (Or.inl ⟨by rfl, fun _ hSw => by go_simp⟩) hS ?_
        simp only [List.getElem_toArray, List.getElem_cons_succ, List.getElem_cons_zero, Act.put, List.setIfInBounds_toArray, List.set_cons_zero, List.set_cons_succ]
        refine wpAnyH_ready (rs := [2, 3]) (by kernel_rfl) (by simp) (AllReadyH.cons rfl (fun K hK => ?_) (AllReadyH.cons rfl (fun K hK => ?_) AllReadyH.nil))
        · simp only [List.getElem_toArray, List.getElem_cons_succ, List.getElem_cons_zero, Act.put, List.setIfInBounds_toArray, List.set_cons_zero, List.set_cons_succ]
          go_simp
          refine (own_any l1 _ _ A1 n1 c1 (y1.nx hbd).sl z1 (by omega) (Nat.le_refl _)).mono ?_
          rintro e w3 ⟨X1, d1, rfl, h1⟩
          have hb3 := next hbd h1.below
          replace hS := HSI.out _ hb3
          refine hK.out _ _ hS (fun _ => ?_)
          clear hK K
          have hal : Below w2.heap.size w2 (w3.alloc (.cells #[.int .u8 0] 5)) := hb3.alloc hb3.size _
          have own5 := own_below h1.own ((Below.refl _ w3).alloc (Nat.le_refl _) (.cells #[.int .u8 0] 5))
          have s5 : Sl (w3.alloc (.cells #[.int .u8 0] 5)) (w3.alloc (.cells #[.int .u8 0] 5)).heap.size (some ⟨w3.heap.size, 0, none⟩) 1 (cb [0]) := (Sl.new w3 #[.int .u8 0] 5).up (by simp)
          obtain ⟨B, hB⟩ : ∃ B, B = w3.heap.size := ⟨_, rfl⟩
          obtain ⟨W5, hW5⟩ : ∃ W, W = w3.alloc (.cells #[.int .u8 0] 5) := ⟨_, rfl⟩
          replace hS := HSI.out _ hal
          refine wpAnyH_ready (rs := [3]) (by kernel_rfl) (by simp) (AllReadyH.cons rfl (fun K hK => ?_) AllReadyH.nil)
          simp only [List.getElem_toArray, List.getElem_cons_succ, List.getElem_cons_zero, Act.put, List.setIfInBounds_toArray, List.set_cons_zero, List.set_cons_succ]
          go_simp
          refine hK.out _ _ hS (fun _ => ?_)
          clear hK K
          rw [← hB, ← hW5] at s5
          rw [← hW5] at own5 hal hS
          try rw [← hB]
          try rw [← hW5]
          have hbx := hal
          clear hal hb3 h1 hB hW5
          obtain ⟨v6, w6, hr6, o6, g6, _⟩ := run_append_sl (P := Try.prog) W5 w2.heap.size 25 25 5 i0 (.int .u8 0) 1 Try.underlying25 hi hz0 hz1 hz2 rfl _ n1 _ own5 _ (some ⟨B, 0, none⟩) 1 1 (cb [0]) s5 (by intro h; cases h) (cb_one _) (by unfold maxLen; omega) (by omega) hbx.size
          obtain ⟨X6, d6, rfl⟩ := own_form o6
          have hbx6 : Below w2.heap.size w2 w6 := below_app hbx (Nat.le_refl _) own5 g6
          rw [← cb_append] at o6
          have hcp6 := own_cap o6
          have hnn6 := own_none o6
          have s6 := Sl.own o6
          have HR6 := Lib.hid hr6
          replace hS := HSI.out _ hbx6
          clear hr6 g6 o6 own5 s5 hbx
          refine wpAnyH_one (i := 4) (by kernel_rfl) rfl (by rfl) (fun K hK => ?_)
          simp only [List.getElem_toArray, List.getElem_cons_succ, List.getElem_cons_zero, Act.put, List.setIfInBounds_toArray, List.set_cons_zero, List.set_cons_succ]
          refine op_append14 _ _ 25 rfl _ _ _ rfl rfl HR6.out ?_
          refine hK.out _ _ hS (fun _ => ?_)
          clear hK K HR6
          refine wpAnyH_ready (rs := [5]) (by kernel_rfl) (by simp) (AllReadyH.cons rfl (fun K hK => ?_) AllReadyH.nil)
          simp only [List.getElem_toArray, List.getElem_cons_succ, List.getElem_cons_zero, Act.put, List.setIfInBounds_toArray, List.set_cons_zero, List.set_cons_succ]
          go_simp
          refine (lengths14_any p k a b d (l1 ++ [0]) w6 X6 (n1 + 1) d6 ⟨s6, by rw [List.length_append, HE1.out]; rfl, hcp6, hnn6⟩ (by omega) hp hk HD.out hd53 ha1 hab hb4).mono ?_
          rw [← HL.out]
          rintro e w7 ⟨X7, d7, rfl, own7, hb7⟩
          have s7 := Sl.own own7
          have hn7 : ∀ ad, X7 = some ad → w2.heap.size ≤ ad.block := fun ad e => Nat.le_trans hbx6.size (own_new (w' := w7) own7 ad e)
          replace hbx6 := next hbx6 hb7
          replace hS := HSI.out _ hbx6
          refine hK.out _ _ hS (fun _ => ?_)
          clear hK K
          refine wpAnyH_take (i := 6) (v := (.slice X7 L.length d7)) rfl (by kernel_rfl) (by kernel_rfl) (by kernel_rfl) (fun _ _ _ h => h) (Or.inl ⟨by rfl, fun _ hSw => by go_simp⟩) hS ?_
          simp only [List.getElem_toArray, List.getElem_cons_succ, List.getElem_cons_zero, Act.put, List.setIfInBounds_toArray, List.set_cons_zero, List.set_cons_succ]
          refine wpAnyH_done (by kernel_rfl) ?_ _
          go_wp2_with fail
          go_meet
          exact ⟨X7, d7, rfl, s7, hn7, hbx6⟩
        · simp only [List.getElem_toArray, List.getElem_cons_succ, List.getElem_cons_zero, Act.put, List.setIfInBounds_toArray, List.set_cons_zero, List.set_cons_succ]
          go_simp
          have hal : Below w2.heap.size w2 (w2.alloc (.cells #[.int .u8 0] 5)).drew := ((Below.refl _ w2).alloc (Nat.le_refl _) _).drew
          have s5 : Sl (w2.alloc (.cells #[.int .u8 0] 5)).drew (w2.alloc (.cells #[.int .u8 0] 5)).drew.heap.size (some ⟨w2.heap.size, 0, none⟩) 1 (cb [0]) := ((Sl.new w2 #[.int .u8 0] 5).up (by simp)).nx ((Below.refl _ _).drew)
          obtain ⟨B, hB⟩ : ∃ B, B = w2.heap.size := ⟨_, rfl⟩
          obtain ⟨W3, hW3⟩ : ∃ W, W = (w2.alloc (.cells #[.int .u8 0] 5)).drew := ⟨_, rfl⟩
          replace hS := HSI.out _ hal
          refine hK.out _ _ hS (fun _ => ?_)
          clear hK K
          try rw [← hW3]
          rw [← hW3] at s5 hal hS
          have y3 := y1.nx hal
          refine wpAnyH_ready (rs := [2]) (by kernel_rfl) (by simp) (AllReadyH.cons rfl (fun K hK => ?_) AllReadyH.nil)
          simp only [List.getElem_toArray, List.getElem_cons_succ, List.getElem_cons_zero, Act.put, List.setIfInBounds_toArray, List.set_cons_zero, List.set_cons_succ]
          go_simp
          rw [← hW3]
          refine (own_any l1 _ _ A1 n1 c1 y3.sl z1 (by omega) (Nat.le_refl _)).mono ?_
          rintro e W5 ⟨X1, d1, rfl, h1⟩
          have hbx := next hal h1.below
          replace hS := HSI.out _ hbx
          refine hK.out _ _ hS (fun _ => ?_)
          clear hK K
          have own5 := own_down h1.own hal.size
          rw [← hB] at s5
          try rw [← hB]
          replace s5 := s5.nx h1.below
          clear hal h1 y3 hB hW3
          obtain ⟨v6, w6, hr6, o6, g6, _⟩ := run_append_sl (P := Try.prog) W5 w2.heap.size 25 25 5 i0 (.int .u8 0) 1 Try.underlying25 hi hz0 hz1 hz2 rfl _ n1 _ own5 _ (some ⟨B, 0, none⟩) 1 1 (cb [0]) s5 (by intro h; cases h) (cb_one _) (by unfold maxLen; omega) (by omega) hbx.size
          obtain ⟨X6, d6, rfl⟩ := own_form o6
          have hbx6 : Below w2.heap.size w2 w6 := below_app hbx (Nat.le_refl _) own5 g6
          rw [← cb_append] at o6
          have hcp6 := own_cap o6
          have hnn6 := own_none o6
          have s6 := Sl.own o6
          have HR6 := Lib.hid hr6
          replace hS := HSI.out _ hbx6
          clear hr6 g6 o6 own5 s5 hbx
          refine wpAnyH_one (i := 4) (by kernel_rfl) rfl (by rfl) (fun K hK => ?_)
          simp only [List.getElem_toArray, List.getElem_cons_succ, List.getElem_cons_zero, Act.put, List.setIfInBounds_toArray, List.set_cons_zero, List.set_cons_succ]
          refine op_append14 _ _ 25 rfl _ _ _ rfl rfl HR6.out ?_
          refine hK.out _ _ hS (fun _ => ?_)
          clear hK K HR6
          refine wpAnyH_ready (rs := [5]) (by kernel_rfl) (by simp) (AllReadyH.cons rfl (fun K hK => ?_) AllReadyH.nil)
          simp only [List.getElem_toArray, List.getElem_cons_succ, List.getElem_cons_zero, Act.put, List.setIfInBounds_toArray, List.set_cons_zero, List.set_cons_succ]
          go_simp
          refine (lengths14_any p k a b d (l1 ++ [0]) w6 X6 (n1 + 1) d6 ⟨s6, by rw [List.length_append, HE1.out]; rfl, hcp6, hnn6⟩ (by omega) hp hk HD.out hd53 ha1 hab hb4).mono ?_
          rw [← HL.out]
          rintro e w7 ⟨X7, d7, rfl, own7, hb7⟩
          have s7 := Sl.own own7
          have hn7 : ∀ ad, X7 = some ad → w2.heap.size ≤ ad.block := fun ad e => Nat.le_trans hbx6.size (own_new (w' := w7) own7 ad e)
          replace hbx6 := next hbx6 hb7
          replace hS := HSI.out _ hbx6
          refine hK.out _ _ hS (fun _ => ?_)
          clear hK K
          refine wpAnyH_take (i := 6) (v := (.slice X7 L.length d7)) rfl (by kernel_rfl) (by kernel_rfl) (by kernel_rfl) (fun _ _ _ h => h) (Or.inl ⟨by rfl, fun _ hSw => by go_simp⟩) hS ?_
          simp only [List.getElem_toArray, List.getElem_cons_succ, List.getElem_cons_zero, Act.put, List.setIfInBounds_toArray, List.set_cons_zero, List.set_cons_succ]
          refine wpAnyH_done (by kernel_rfl) ?_ _
          go_wp2_with fail
          go_meet
          exact ⟨X7, d7, rfl, s7, hn7, hbx6⟩
      case rest =>
        obtain ⟨X, cx, rfl, sX, hX, hbc⟩ := hcut
        have hckc := HCK.out.next hbc
        have HY0 := Lib.hid y0
        have HOW : Hid (∀ j, j ∈ own → j < w2.heap.size) := HCK.out.lt
        have HSX := Lib.hid sX
        have HXN := Lib.hid hX
        have HBC := Lib.hid (next HBW.out hbc)
        have HL0 : Hid (L = cutL p d k a b (l1 ++ [0])) := HL.out
        have hz2 : w2.heap.size ≤ wc.heap.size := hbc.size
        clear sX hX hbc y1 y0 HCK HBW b0 b2
        go_wp2
        go_loopw [8, 9, 58] (fun nv ov i wr => ∃ (j m : Nat) (o : List UInt8), j ≤ n1 ∧ i = .int .i64 (j : Int) ∧ nv = .int .i64 (m : Int) ∧ ov = .int .i64 ((o.length : Nat) : Int) ∧ o.length ≤ j ∧ Ck wr own g p d k a b o ∧ Turns own wc wr ∧ m < L.length ∧ L.drop m = cutL p d k a b (o ++ (l1 ++ [0]).drop j)) (fun _ _ i _ => n1 - (intOf i).toNat)
        case atStart => exact ⟨0, 0, [], Nat.zero_le _, rfl, rfl, rfl, Nat.le_refl _, hckc, Turns.refl _ _, by rw [HL0.out]; exact cutL_some (by simp), by rw [List.drop_zero, List.drop_zero, List.nil_append]; exact HL0.out⟩
        case round =>
          obtain ⟨j, m, o, hj, rfl, rfl, rfl, hoj, hck, hT, hm, hdr⟩ := hrel
          have hbr := hT.below HBC.out (Nat.le_trans HBC.out.size (Nat.le_refl _)) (fun i hi => by have := HGO.out i hi; omega)
          by_cases hlt1 : j < n1
          · have hjl : j < l1.length := by have := HE1.out; omega
            obtain ⟨ad, rfl, hbl, hcw⟩ := HY0.out.sl.byte hjl
            obtain ⟨x, hx⟩ : ∃ x, x = l1[j] := ⟨_, rfl⟩
            rw [← hx] at hcw
            have hcell : wr.cell? (ad.add j) = some (.int .u8 (x.toNat : Int)) := (hbr.cell (by rw [add_block]; omega)).trans hcw
            have hdrop : (l1 ++ [0]).drop j = x :: (l1 ++ [0]).drop (j + 1) := by
              rw [List.drop_eq_getElem_cons (by simp; omega), List.getElem_append_left hjl, hx]
            obtain ⟨r, hr⟩ : ∃ r, r = (l1 ++ [0]).drop (j + 1) := ⟨_, rfl⟩
            have hrl : 0 < r.length := by rw [hr]; simp; omega
            rw [hdrop, ← hr] at hdr
            have hsr := hT.sl HSX.out (Nat.le_refl _) (fun _ ad e hi => by have h1 := HXN.out ad e; have h2 := HOW.out _ hi; omega)
            obtain ⟨ae, rfl, hab, hac⟩ := hsr.2 (by omega)
            obtain ⟨f, hf⟩ : ∃ f, f = L[m] := ⟨_, rfl⟩
            have hcf : wr.cell? (ae.add m) = some (.int .i64 (f : Int)) := by rw [hac m _ (is_at hm), hf]
            have hdm : L.drop m = f :: L.drop (m + 1) := by rw [List.drop_eq_getElem_cons hm, hf]
            rw [hdm] at hdr
            have hno := hck.no
            obtain ⟨E, hE⟩ : ∃ E, E = endB p d k a b (o ++ [x]) := ⟨_, rfl⟩
            have i0' : (0 : Int) ≤ (j : Int) := by omega
            have i1' : (j : Int) < (n1 : Int) := by omega
            have m0' : (0 : Int) ≤ (m : Int) := by omega
            have m1' : (m : Int) < (L.length : Int) := by omega
            have HPU := Lib.hid (cpush_any g p d k a b own o x wr hck (by omega))
            unfold CkPost at HPU
            rw [← hE] at HPU
            have HR := Lib.hid hr
            have hol : o.length ≤ 1000 := by omega
            cases E with
            | true =>
              rw [cutL_end hno x hE.symm r] at hdr
              injection hdr with hd1 hd2
              have HD2 := Lib.hid hd2
              have eq1 : ((o.length : Int) + 1 == (f : Int)) = true := by simp; omega
              have hmm : m + 1 < L.length := by
                have h1 := cutL_some (m := p) (d := d) (mask := k) (mn := a) (mx := b) hrl
                rw [← hd2, List.length_drop] at h1
                omega
              clear hck hdrop hr hdm hac hcw hx hE hd1 hd2 hf hno
              go_wp2_with fail
              refine HPU.out.mono ?_
              rintro e w5 ⟨rfl, hck5, hT5⟩
              replace hck5 : Ck w5 own g p d k a b [] := by simpa using hck5
              have HT5 := Lib.hid (hT.trans hT5)
              have HCK5 := Lib.hid hck5
              clear hck5 hT5 hT hcell hcf hsr hbr
              go_wp2_with fail
              refine (copen_any g p d k a b own [] w5 HCK5.out).mono ?_
              rintro e w6 ⟨rfl, rfl⟩
              go_wp2
              go_roundw
              case rel => exact ⟨j + 1, m + 1, [], by omega, by go_num, by go_num, rfl, by simp, HCK5.out, HT5.out, hmm, by rw [List.nil_append, ← HR.out]; exact HD2.out⟩
              case measure => simp [intOf]; omega
            | false =>
              have hno2 := hno.push x hE.symm
              have hgt := cutF_gt hno2 hrl
              have hap : o ++ x :: r = (o ++ [x]) ++ r := by simp
              rw [hap] at hdr
              have hdr0 := hdr
              rw [cutL_step _ _ _ _ _ (show 0 < ((o ++ [x]) ++ r).length by simp; omega)] at hdr
              injection hdr with hd1 hd2
              rw [← hd1] at hgt
              rw [← hdm] at hdr0
              have hol2 : (o ++ [x]).length = o.length + 1 := by simp
              rw [hol2] at hgt
              have HD2 := Lib.hid hdr0
              have eq1 : ((o.length : Int) + 1 == (f : Int)) = false := by simp; omega
              obtain ⟨o2, ho2⟩ : ∃ o2, o2 = o ++ [x] := ⟨_, rfl⟩
              rw [← ho2] at HD2 HPU hol2
              have HOL2 : Hid (((o2.length : Nat) : Int) = (o.length : Int) + 1) := by unfold Hid; rw [hol2]; simp
              have eq2 : ((o2.length : Int) != (o.length : Int) + 1) = false := by simp; omega
              clear hck hdrop hr hdm hac hcw hx hE hd1 hd2 hf hno hno2 hap hdr0 ho2
              go_wp2_with fail
              refine HPU.out.mono ?_
              rintro e w5 ⟨rfl, hck5, hT5⟩
              replace hck5 : Ck w5 own g p d k a b o2 := by simpa using hck5
              have HT5 := Lib.hid (hT.trans hT5)
              have HCK5 := Lib.hid hck5
              clear hck5 hT5 hT hcell hcf hsr hbr
              go_wp2_with fail
              refine (copen_any g p d k a b own o2 w5 HCK5.out).mono ?_
              rintro e w6 ⟨rfl, rfl⟩
              go_wp2
              go_roundw
              case rel => exact ⟨j + 1, m, o2, by omega, by go_num, rfl, by rw [HOL2.out], by omega, HCK5.out, HT5.out, hm, by rw [← HR.out]; exact HD2.out⟩
              case measure => simp [intOf]; omega
          · have j1 : ¬ (j : Int) < (n1 : Int) := by omega
            clear hck hT hdr
            go_wp2_with (first
              | (go_at_call 8; refine (AW.out _).mono ?_; rintro e w10 ⟨rfl, hb10⟩)
              | fail)
            go_ret
            exact ⟨rfl, next hbr hb10⟩
  · have q1 : (600 : Int) < (n1 : Int) := by omega
    go_enter Try.func5, Try.ntmps5
    go_wp2_with (first
      | (refine wpList_box_agg rfl 24 _ rfl (cutC p k mn mx) rfl ?_; rw [HW0.out])
      | (go_at_call 8; refine (AW.out _).mono ?_; rintro e w10 ⟨rfl, hb10⟩)
      | fail)
    go_ret
    exact ⟨rfl, next hb0 hb10⟩

end Go.Proofs.Ytkopdkamhkmefaa
