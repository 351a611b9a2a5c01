/- Mix of the reference of package cipher: the whole. -/
import Derived.Test.YtnhpamfmbledmaaDoorChaU
namespace Go.Proofs.YtnhpamfmbledmaaDoor
open Go.RowKit
set_option linter.unusedVariables false
set_option linter.unusedSimpArgs false

/-- No byte of a slice lies in the block that v owns. -/
def Apart (v : Value) (A : Option Addr) : Prop := ∀ g, v.ownBlock = some g → ∀ ad, A = some ad → ad.block ≠ g

set_option maxRecDepth 100000 in
set_option maxHeartbeats 1000000 in
theorem rmix_main (key nonce b : List UInt8) (f : Nat) (A0 A1 A3 : Option Addr) (n c0 c1 c3 : Nat) (w : World) (hf : f < 4294967296) (h0 : Sl w w.heap.size A0 32 (cb key)) (h1 : Sl w w.heap.size A1 12 (cb nonce)) (h3 : Sl w w.heap.size A3 n (cb b)) (k0 : 32 ≤ c0) (k1 : 12 ≤ c1) (z0 : A0 = none → c0 = 0) (z1 : A1 = none → c1 = 0) (hm : n ≤ 1000000000) (hcap : blksN n ≤ 4294967296 - f) :
    Calls Tryd.prog 16 #[.slice A0 32 c0, .slice A1 12 c1, .int .u32 f, .slice A3 n c3] w (RetSl w (mixL key nonce f b) 0) := by
  have hn3 : n = b.length := by rw [← h3.1, cb_len]
  have HN3 := Lib.hid hn3
  obtain ⟨j0, hj', hy0, hy1, hy2⟩ := info_parts u8_info
  have HF : Hid (Calls Tryd.prog 10 #[.slice A0 32 c0, .slice A1 12 c1] w fun e w' => e = .returned (.bool true) ∧ w = w') := right_any 32 12 c0 c1 A0 A1 _
  obtain ⟨k, hk⟩ : ∃ k, k = blksN n := ⟨_, rfl⟩
  have hkb : k ≤ 100000000 := by rw [hk]; unfold blksN; omega
  rw [← hk] at hcap
  have hcs := blks_case n k hk
  have hgt : ¬ (4294967296 : Int) - (f : Int) < (k : Int) := by omega
  have HKQ : Hid (∀ j, j < n → j / 64 < k) := by unfold Hid; intro j hj; rw [hk]; unfold blksN; omega
  obtain ⟨M, hM⟩ : ∃ M, M = mixL key nonce f b := ⟨_, rfl⟩
  rw [← hM]
  have HML : Hid (M.length = n) := by unfold Hid; rw [hM, mixL_len, HN3.out]
  have HM := Lib.hid hM
  clear hn3 hk hM
  rcases hcs with ⟨hr, hd⟩ | ⟨hr, hd⟩
  all_goals
    go_enter Tryd.func16, Tryd.ntmps16
    go_wp2_with fail
    refine HF.out.mono ?_
    rintro e w' ⟨rfl, rfl⟩
    go_wp2
    clear hr hd hgt
    go_loopw [11, 12, 13] (fun v x i wr => ∃ (j : Nat) (Ax : Option Addr) (nx cx : Nat), j ≤ n ∧ i = .int .i64 j ∧ x = .slice Ax nx cx ∧ (j % 64 ≠ 0 → nx = 64 ∧ Sl wr wr.heap.size Ax 64 (cb (cblk key nonce (f + j / 64))) ∧ Apart v Ax) ∧ wr.ownsRow w.heap.size 5 1 v j (cb (M.take j)) ∧ Below w.heap.size w wr) (fun _ _ i _ => n - (intOf i).toNat)
    case atStart => exact ⟨0, none, 0, 0, by omega, rfl, rfl, (fun h => absurd rfl h), World.ownsRow_nil _ _ _ _, Below.refl _ _⟩
    case round =>
      obtain ⟨j, Ax, nx, cx, hj, rfl, rfl, hx, hown, hbel⟩ := hrel
      obtain ⟨Av, cv, rfl⟩ := own_form hown
      by_cases hjl : j < n
      · obtain ⟨q, hq⟩ : ∃ q, q = j / 64 := ⟨_, rfl⟩
        obtain ⟨m, hm'⟩ : ∃ m, m = j % 64 := ⟨_, rfl⟩
        obtain ⟨N, hN⟩ : ∃ N, N = f + q := ⟨_, rfl⟩
        have hqk := HKQ.out j hjl
        rw [← hq] at hqk hx
        rw [← hm'] at hx
        rw [← hN] at hx
        obtain ⟨Bk, hBk⟩ : ∃ B, B = cblk key nonce N := ⟨_, rfl⟩
        rw [← hBk] at hx
        have HBL : Hid (Bk.length = 64) := by unfold Hid; rw [hBk, cblk_len]
        have hml : m < 64 := by omega
        have e1 : (j : Int) / 64 = (q : Int) := by omega
        have e2 : (j : Int) % 64 = (m : Int) := by omega
        have e3 : (f : Int) + (q : Int) = (N : Int) := by omega
        have hNl : N < 4294967296 := by omega
        have hql : q < 4294967296 := by omega
        obtain ⟨xb, hxb⟩ : ∃ x, b[j]? = some x := ⟨_, List.getElem?_eq_getElem (by rw [← HN3.out]; exact hjl)⟩
        obtain ⟨yb, hyb⟩ : ∃ y, Bk[m]? = some y := ⟨_, List.getElem?_eq_getElem (by rw [HBL.out]; exact hml)⟩
        have HS : Hid (cb (M.take (j + 1)) = cb (M.take j) ++ [.int .u8 ((xb ^^^ yb).toNat : Int)]) := by
          unfold Hid; rw [HM.out]; exact mixL_take key nonce f b j (by rw [← HN3.out]; exact hjl) xb yb hxb (by rw [← hq, ← hN, ← hBk, ← hm']; exact hyb)
        have HQ := Lib.hid hq
        have HMM := Lib.hid hm'
        have HNN := Lib.hid hN
        have HBk := Lib.hid hBk
        have HXB := Lib.hid hxb
        have HYB := Lib.hid hyb
        clear hq hm' hN hBk hxb hyb hqk
        have hcase : (m = 0 ∧ (1 : Nat) ≤ 2) ∨ (m ≠ 0 ∧ (1 : Nat) ≤ 2) := by omega
        rcases hcase with ⟨hm0, _⟩ | ⟨hm0, _⟩
        all_goals first
          | (have hq0 : ((m : Int) == 0) = true := (by rw [hm0]; rfl)
             go_wp2_with fail
             refine (rblock_any key nonce N _ A0 A1 c0 c1 (h0.nx hbel) (h1.nx hbel) k0 k1 z0 z1 hNl Bk HBk.out).mono ?_
             rintro e Wc ⟨Xa, Xc, rfl, hnew⟩
             have hsx := hnew.sl
             have hownc := own_below hown hnew.below
             have hbelc := next hbel hnew.below
             have hdis : Apart (.slice Av j cv) Xa := (fun g hg ad e => by have h1 := own_lt hown hg; have h2 := own_new (w' := wr) hnew.own ad e; omega)
             clear hnew hown hbel hx
             go_wp2)
          | (have hq0 : ((m : Int) == 0) = false := (by simp; omega)
             obtain ⟨Wc, hWc⟩ : ∃ x, x = wr := ⟨wr, rfl⟩
             subst hWc
             obtain ⟨rfl, hsx, hdis⟩ := hx hm0
             obtain ⟨Xa, hXa⟩ : ∃ x, x = Ax := ⟨Ax, rfl⟩
             subst hXa
             obtain ⟨Xc, hXc⟩ : ∃ x, x = cx := ⟨cx, rfl⟩
             subst hXc
             have hownc := hown
             have hbelc := hbel
             clear hx hown hbel
             go_wp2)
        all_goals
          obtain ⟨adx, rfl, hxblk, hcx⟩ := hsx.2 (by omega)
          obtain ⟨adb, eA, hbblk, hcb⟩ := (h3.below hbelc).2 (by omega)
          have hcb1 := hcb j (.int .u8 (xb.toNat : Int)) (by simp [cb, HXB.out, bc])
          have hcx1 := hcx m (.int .u8 (yb.toNat : Int)) (by simp [cb, HYB.out, bc])
          have hbz := hbelc.size
          obtain ⟨S, hSd⟩ : ∃ S : World → Prop, S = fun w' => w'.cell? (adb.add j) = some (.int .u8 (xb.toNat : Int)) ∧ w'.cell? (adx.add m) = some (.int .u8 (yb.toNat : Int)) := ⟨_, rfl⟩
          have HSI : Hid (∀ w', w'.heap[adb.block]? = Wc.heap[adb.block]? → w'.heap[adx.block]? = Wc.heap[adx.block]? → S w') := by
            unfold Hid; intro w' ha hb; rw [hSd]
            exact ⟨by rw [World.cell?_of_block (w := Wc) (by rw [add_block]; exact ha)]; exact hcb1, by rw [World.cell?_of_block (w := Wc) (by rw [add_block]; exact hb)]; exact hcx1⟩
          have HSb : Hid (∀ w', S w' → w'.cell? (adb.add j) = some (.int .u8 (xb.toNat : Int))) := by unfold Hid; intro w' h; rw [hSd] at h; exact h.1
          have HSx : Hid (∀ w', S w' → w'.cell? (adx.add m) = some (.int .u8 (yb.toNat : Int))) := by unfold Hid; intro w' h; rw [hSd] at h; exact h.2
          have hS : S Wc.drew := HSI.out _ rfl rfl
          have hxx := xb.toNat_lt
          have hyy := yb.toNat_lt
          have hji : (j : Int) < (n : Int) := by omega
          have hmi : (m : Int) < 64 := by omega
          obtain ⟨zb, hzb⟩ : ∃ z, z = xb ^^^ yb := ⟨_, rfl⟩
          have HX : Hid (bits BinOp.xor IntKind.u8 (xb.toNat : Int) (yb.toNat : Int) = (zb.toNat : Int)) := by unfold Hid; rw [hzb]; exact byte_xor2 xb yb
          have HS2 : Hid (cb (M.take (j + 1)) = cb (M.take j) ++ [.int .u8 (zb.toNat : Int)]) := by unfold Hid; rw [HS.out, hzb]
          have hzl := zb.toNat_lt
          clear hzb HS
          have e4 : (j : Int).tmod 64 = (m : Int) := by rw [Int.tmod_eq_emod_of_nonneg (by omega)]; exact e2
          subst eA
          clear hSd hcb1 hcx1 hcb hcx e1 e3 hq0 hm0
          refine wp_region_held_drew (S := S) (by kernel_rfl) hS (fun _ => ?_)
          refine wpAnyH_take (i := 0) (v := (.slice Av j cv)) rfl (by kernel_rfl) (by kernel_rfl) (by kernel_rfl) (fun _ _ _ h => h) (Or.inl ⟨by rfl, fun _ hSw => by go_simp⟩) hS ?_
          simp only [List.getElem_toArray, List.getElem_cons_succ, List.getElem_cons_zero, Act.put, List.setIfInBounds_toArray, List.set_cons_zero, List.set_cons_succ]
          refine wpAnyH_take (i := 1) (v := (.slice (some adb) n c3)) rfl (by kernel_rfl) (by kernel_rfl) (by kernel_rfl) (fun _ _ _ h => h) (Or.inl ⟨by rfl, fun _ hSw => by go_simp⟩) hS ?_
          simp only [List.getElem_toArray, List.getElem_cons_succ, List.getElem_cons_zero, Act.put, List.setIfInBounds_toArray, List.set_cons_zero, List.set_cons_succ]
          refine wpAnyH_take (i := 2) (v := (.int .i64 (j : Int))) rfl (by kernel_rfl) (by kernel_rfl) (by kernel_rfl) (fun _ _ _ h => h) (Or.inl ⟨by rfl, fun _ hSw => by go_simp⟩) hS ?_
          simp only [List.getElem_toArray, List.getElem_cons_succ, List.getElem_cons_zero, Act.put, List.setIfInBounds_toArray, List.set_cons_zero, List.set_cons_succ]
          refine wpAnyH_take (i := 3) (v := (.pointer (some (adb.add j)))) rfl (by kernel_rfl) (by kernel_rfl) (by kernel_rfl) (fun _ _ _ h => h) (Or.inl ⟨by rfl, fun _ hSw => by go_simp⟩) hS ?_
          simp only [List.getElem_toArray, List.getElem_cons_succ, List.getElem_cons_zero, Act.put, List.setIfInBounds_toArray, List.set_cons_zero, List.set_cons_succ]
          refine wpAnyH_take (i := 4) (v := .int .u8 (xb.toNat : Int)) rfl (by kernel_rfl) (by kernel_rfl) (by kernel_rfl) (fun _ _ _ h => h) (Or.inl ⟨by rfl, fun w' hSw => by have hq := HSb.out w' hSw; go_simp⟩) hS ?_
          simp only [List.getElem_toArray, List.getElem_cons_succ, List.getElem_cons_zero, Act.put, List.setIfInBounds_toArray, List.set_cons_zero, List.set_cons_succ]
          refine wpAnyH_take (i := 5) (v := (.slice (some adx) 64 Xc)) rfl (by kernel_rfl) (by kernel_rfl) (by kernel_rfl) (fun _ _ _ h => h) (Or.inl ⟨by rfl, fun _ hSw => by go_simp⟩) hS ?_
          simp only [List.getElem_toArray, List.getElem_cons_succ, List.getElem_cons_zero, Act.put, List.setIfInBounds_toArray, List.set_cons_zero, List.set_cons_succ]
          refine wpAnyH_take (i := 6) (v := (.int .i64 (j : Int))) rfl (by kernel_rfl) (by kernel_rfl) (by kernel_rfl) (fun _ _ _ h => h) (Or.inl ⟨by rfl, fun _ hSw => by go_simp⟩) hS ?_
          simp only [List.getElem_toArray, List.getElem_cons_succ, List.getElem_cons_zero, Act.put, List.setIfInBounds_toArray, List.set_cons_zero, List.set_cons_succ]
          refine wpAnyH_take (i := 7) (v := (.int .i64 (m : Int))) rfl (by kernel_rfl) (by kernel_rfl) (by kernel_rfl) (fun _ _ _ h => h) (Or.inl ⟨by rfl, fun _ hSw => by go_simp⟩) hS ?_
          simp only [List.getElem_toArray, List.getElem_cons_succ, List.getElem_cons_zero, Act.put, List.setIfInBounds_toArray, List.set_cons_zero, List.set_cons_succ]
          refine wpAnyH_take (i := 8) (v := (.pointer (some (adx.add m)))) rfl (by kernel_rfl) (by kernel_rfl) (by kernel_rfl) (fun _ _ _ h => h) (Or.inl ⟨by rfl, fun _ hSw => by go_simp⟩) hS ?_
          simp only [List.getElem_toArray, List.getElem_cons_succ, List.getElem_cons_zero, Act.put, List.setIfInBounds_toArray, List.set_cons_zero, List.set_cons_succ]
          refine wpAnyH_take (i := 9) (v := .int .u8 (yb.toNat : Int)) rfl (by kernel_rfl) (by kernel_rfl) (by kernel_rfl) (fun _ _ _ h => h) (Or.inl ⟨by rfl, fun w' hSw => by have hq := HSx.out w' hSw; go_simp⟩) hS ?_
          simp only [List.getElem_toArray, List.getElem_cons_succ, List.getElem_cons_zero, Act.put, List.setIfInBounds_toArray, List.set_cons_zero, List.set_cons_succ]
          refine wpAnyH_take (i := 10) (v := (.int .u8 (zb.toNat : Int))) rfl (by kernel_rfl) (by kernel_rfl) (by kernel_rfl) (fun _ _ _ h => h) (Or.inl ⟨by rfl, fun _ hSw => by go_simp; exact HX.out⟩) hS ?_
          simp only [List.getElem_toArray, List.getElem_cons_succ, List.getElem_cons_zero, Act.put, List.setIfInBounds_toArray, List.set_cons_zero, List.set_cons_succ]
          clear e2 e4
          refine wpAnyH_ready (rs := [11]) (by kernel_rfl) (by simp) (AllReadyH.cons rfl (fun K hK => ?_) AllReadyH.nil)
          simp only [List.getElem_toArray, List.getElem_cons_succ, List.getElem_cons_zero, Act.put, List.setIfInBounds_toArray, List.set_cons_zero, List.set_cons_succ]
          go_simp
          obtain ⟨W2, hW2⟩ : ∃ W, W = (Wc.alloc (.cells #[.int .u8 (zb.toNat : Int)] 5)).drew := ⟨_, rfl⟩
          have hsn : Sl (Wc.alloc (.cells #[.int .u8 (zb.toNat : Int)] 5)).drew (Wc.heap.size + 1) (some ⟨Wc.heap.size, 0, none⟩) 1 [.int .u8 (zb.toNat : Int)] := Sl.new Wc #[.int .u8 (zb.toNat : Int)] 5
          have hown2 : (Wc.alloc (.cells #[.int .u8 (zb.toNat : Int)] 5)).drew.ownsRow w.heap.size 5 1 (.slice Av j cv) j (cb (M.take j)) := hownc.alloc _
          have hbel2 : Below w.heap.size w (Wc.alloc (.cells #[.int .u8 (zb.toNat : Int)] 5)).drew := (hbelc.alloc hbz _).drew
          have hgr2 : Wc.grownBy (Wc.alloc (.cells #[.int .u8 (zb.toNat : Int)] 5)).drew none := ⟨rfl, rfl, rfl, by simp, fun i hi _ => Below.heap_alloc Wc _ i hi⟩
          have hsz2 : (Wc.alloc (.cells #[.int .u8 (zb.toNat : Int)] 5)).drew.heap.size = Wc.heap.size + 1 := by simp
          rw [← hW2] at hsn hown2 hbel2 hgr2 hsz2 ⊢
          have hbb2 : adb.block < Wc.heap.size := by omega
          have hh1 := hgr2.block adb.block hbb2 (by simp)
          have hh2 := hgr2.block adx.block hxblk (by simp)
          have hsx2 := sl_row hsx hgr2 (by simp)
          replace hS := HSI.out _ hh1 hh2
          refine hK.out _ _ hS (fun _ => ?_)
          have HSZ2 := Lib.hid hsz2
          clear hK K hW2 hownc hbelc hgr2 hsx hsz2
          have hbz2 := hbel2.size
          refine wpAnyH_ready (rs := [12]) (by kernel_rfl) (by simp) (AllReadyH.cons rfl (fun K hK => ?_) AllReadyH.nil)
          simp only [List.getElem_toArray, List.getElem_cons_succ, List.getElem_cons_zero, Act.put, List.setIfInBounds_toArray, List.set_cons_zero, List.set_cons_succ]
          rw [if_pos (by rfl)]
          refine wp_append_sl _ _ 22 rfl w.heap.size 5 j0 (.int .u8 0) 1 Tryd.underlying22 hj' hy0 hy1 hy2 rfl _ j _ rfl hown2 _ (some ⟨Wc.heap.size, 0, none⟩) 1 1 [.int .u8 (zb.toNat : Int)] rfl hsn (by intro h; cases h) (by intro u hu; simp at hu; subst hu; rfl) (by unfold maxLen; omega) (by omega) hbz2 ?_
          intro v9 w9 hown9 hgrow9 hat9
          have hb9 : Below w.heap.size w w9 := below_app hbel2 (Nat.le_refl _) hown2 hgrow9
          rw [← HS2.out] at hown9
          have hne1 : some adb.block ≠ (Value.slice Av j cv).ownBlock := fun e => by have h1 := own_blk hown2 e.symm; omega
          have hne2 : some adx.block ≠ (Value.slice Av j cv).ownBlock := fun e => hdis _ e.symm adx rfl rfl
          have hk1 := (hgrow9.block adb.block (by have := HSZ2.out; omega) hne1).trans hh1
          have hk2 := (hgrow9.block adx.block (by have := HSZ2.out; omega) hne2).trans hh2
          have hsx9 := sl_row hsx2 hgrow9 (fun _ ad e => by injection e with e; subst e; exact fun e => hne2 e.symm)
          have hdis9 : Apart v9 (some adx) := fun g hg ad e => by
            injection e with e
            subst e
            rcases hat9 with hat9 | hat9
            · rw [hat9] at hg; exact hdis g hg adx rfl
            · rw [hat9] at hg; injection hg with hg; have := HSZ2.out; omega
          have HO9 := Lib.hid hown9
          replace hS := HSI.out _ hk1 hk2
          refine hK.out _ _ hS (fun _ => ?_)
          clear hK K hown2 hgrow9 hown9 hat9 hne1 hne2 hk1 hk2 hsx2 hbel2 hsn hh1 hh2
          simp only [List.getElem_toArray, List.getElem_cons_succ, List.getElem_cons_zero, Act.put, List.setIfInBounds_toArray, List.set_cons_zero, List.set_cons_succ]
          refine wpAnyH_take (i := 13) (v := (v9)) rfl (by kernel_rfl) (by kernel_rfl) (by kernel_rfl) (fun _ _ _ h => h) (Or.inl ⟨by rfl, fun _ hSw => by go_simp⟩) hS ?_
          simp only [List.getElem_toArray, List.getElem_cons_succ, List.getElem_cons_zero, Act.put, List.setIfInBounds_toArray, List.set_cons_zero, List.set_cons_succ]
          refine wpAnyH_done (by kernel_rfl) ?_ _
          go_wp2
          go_roundw
          case rel =>
            refine ⟨j + 1, some adx, 64, Xc, by omega, by go_num, rfl, fun hne => ⟨rfl, ?_, hdis9⟩, HO9.out, hb9⟩
            have e9 : (j + 1) / 64 = q := by have := HQ.out; omega
            rw [e9, ← HNN.out, ← HBk.out]
            exact hsx9
          case measure => simp [intOf]; omega
      · have HJ : Hid (j = n) := (by omega : j = n)
        go_wp2
        go_ret2
        rw [HJ.out, List.take_of_length_le (by rw [HML.out]; omega)] at hown
        rw [HJ.out]
        exact ⟨Av, n, cv, rfl, Sl.own hown, HML.out.symm, own_cap hown, own_none hown, own_new (w' := wr) hown, hbel⟩

end Go.Proofs.YtnhpamfmbledmaaDoor
