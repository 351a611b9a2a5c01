/- Tag of the reference. -/
import Derived.Test.YtlnoopmblmkgkaaGreatDoorLM
import Derived.Test.YtlnoopmblmkgkaaGreatDoorLV
namespace Go.Proofs.YtlnoopmblmkgkaaGreatDoor
set_option maxRecDepth 100000
open Go.RowKit
set_option linter.unusedVariables false
set_option linter.unusedSimpArgs false

theorem kx54_next (l : List UInt8) (k : Nat) (h : k < l.length) : cb (kx 54 (l.take (k + 1))) = cb (kx 54 (l.take k)) ++ [.int .u8 (bits BinOp.xor IntKind.u8 (l[k].toNat : Int) 54)] := by
  rw [kx_take 54 l k h, cb_append, show (54 : Int) = (((54 : UInt8).toNat : Nat) : Int) from rfl, byte_xor]
  rfl
theorem kx92_next (l : List UInt8) (k : Nat) (h : k < l.length) : cb (kx 92 (l.take (k + 1))) = cb (kx 92 (l.take k)) ++ [.int .u8 (bits BinOp.xor IntKind.u8 (l[k].toNat : Int) 92)] := by
  rw [kx_take 92 l k h, cb_append, show (92 : Int) = (((92 : UInt8).toNat : Nat) : Int) from rfl, byte_xor]
  rfl
theorem kblk_low (key : List UInt8) (k : Nat) (h : k < (kshort key).length) (h' : k < (kblk key).length) : (kblk key)[k] = (kshort key)[k] := by
  have := kblk_at key k (by rw [kblk_len] at h'; exact h')
  rw [dif_pos h, List.getElem?_eq_getElem h'] at this
  injection this
theorem kblk_high (key : List UInt8) (k : Nat) (h : ¬ k < (kshort key).length) (h' : k < (kblk key).length) : (kblk key)[k] = 0 := by
  have := kblk_at key k (by rw [kblk_len] at h'; exact h')
  rw [dif_neg h, List.getElem?_eq_getElem h'] at this
  injection this
/-- What the reference's loop holds. -/
def TagR (w : World) (E : TypeId) (b : List UInt8) (vi vo i : Value) (wr : World) : Prop :=
  ∃ k : Nat, k ≤ 64 ∧ i = .int .i64 k ∧ wr.ownsRow w.heap.size E 1 vi k (cb (kx 54 (b.take k))) ∧ wr.ownsRow w.heap.size E 1 vo k (cb (kx 92 (b.take k))) ∧ (vi.ownBlock = none ∨ vi.ownBlock ≠ vo.ownBlock) ∧ Below w.heap.size w wr

set_option maxRecDepth 100000 in
set_option maxHeartbeats 1000000 in
theorem rtag_any (key m : List UInt8) (w : World) (B : Nat) (A A' : Option Addr) (n c n' c' : Nat) (h : Sl w B A n (cb key)) (hA : A = none → c = 0) (hm : n ≤ 100000000) (h' : Sl w B A' n' (cb m)) (hA' : A' = none → c' = 0) (hm' : n' ≤ 10000000) (hB : B ≤ w.heap.size) :
    Calls Tryz.prog 65 #[.slice A n c, .slice A' n' c'] w (RetBytes 5 w 32 (hmac key m)) := by
  obtain ⟨i0, hi, hz0, hz1, hz2⟩ := info_parts u8_info
  have hn : n = key.length := by rw [← h.1, cb_len]
  subst hn
  have h1 := h.up hB
  have h2 := h'.up hB
  clear h h'
  obtain ⟨b, hbk⟩ : ∃ b, b = kblk key := ⟨_, rfl⟩
  have HBL : Hid (b.length = 64) := by unfold Hid; rw [hbk, kblk_len]
  have HLO : Hid (∀ k (h : k < (kshort key).length) (h' : k < b.length), b[k] = (kshort key)[k]) := by unfold Hid; subst hbk; exact kblk_low key
  have HHI : Hid (∀ k (h : ¬ k < (kshort key).length) (h' : k < b.length), b[k] = 0) := by unfold Hid; subst hbk; exact kblk_high key
  have HR : Hid (hmac key m = sha (kx 92 b ++ sha (kx 54 b ++ m))) := by unfold Hid hmac; rw [hbk]
  have HX1 : Hid ((kx 54 b).length = 64) := by unfold Hid; rw [kx_len, HBL.out]
  have HX2 : Hid ((kx 92 b).length = 64) := by unfold Hid; rw [kx_len, HBL.out]
  clear hbk
  have hkl := kshort_len key
  obtain ⟨S, hS⟩ : ∃ S, S = kshort key := ⟨_, rfl⟩
  rw [← hS] at HLO HHI hkl
  by_cases hlong : 64 < key.length
  · have hS2 : S = sha key := by rw [hS, kshort_long hlong]
    have HSL : Hid (S.length = 32) := by unfold Hid; rw [hS2, sha_len]
    go_enter Tryz.func65, Tryz.ntmps65
    go_wp2_with fail
    refine (rof_any key _ _ _ _ _ h1 hA (Nat.le_refl _) (by omega)).mono ?_
    rintro e w1 ⟨A1, c1, rfl, hr1⟩
    rw [← hS2] at hr1
    have hs1 : Sl w1 w1.heap.size A1 32 (cb S) := hr1.sl
    have hbw := hr1.below
    have hnS : S.length = 32 := HSL.out
    clear hr1 h1 hS hS2
    have h2 := h2.nx hbw
    go_wp2_with fail
    go_loopw [5, 6, 7] (fun vi vo i wr => TagR w1 5 b vi vo i wr) (fun _ _ i _ => 64 - (intOf i).toNat)
    case atStart => exact ⟨0, by omega, rfl, ⟨rfl, .inl ⟨rfl, rfl⟩⟩, ⟨rfl, .inl ⟨rfl, rfl⟩⟩, .inl rfl, Below.refl _ _⟩
    case round =>
      obtain ⟨k, hk, rfl, hin, hout, hdis, hb⟩ := hrel
      have hbs := hb.size
      obtain ⟨Ai, ci, rfl⟩ := own_form hin
      obtain ⟨Ao, co, rfl⟩ := own_form hout
      by_cases hlt : k < 64
      · have E54 := Lib.hid (kx54_next b k (by rw [HBL.out]; exact hlt))
        have E92 := Lib.hid (kx92_next b k (by rw [HBL.out]; exact hlt))
        by_cases hin0 : k < 32
        · have hsr := hs1.below hb
          obtain ⟨ad, e1, hadb, hcell⟩ := hsr.byte (j := k) (by omega)
          rw [HLO.out k (by omega) (by rw [HBL.out]; exact hlt)] at E54 E92
          obtain ⟨x, hx⟩ : ∃ x, x = S[k]'(by omega) := ⟨_, rfl⟩
          rw [← hx] at E54 E92 hcell
          clear hx
          have hxl := x.toNat_lt
          subst e1
          clear hsr
          go_wp2_with (first
            | (at_builtin; refine wpList_append_own_at _ rfl _ _ 22 rfl w1.heap.size 5 i0 (.int .u8 0) 1 1 Tryz.underlying22 hi hz0 hz1 hz2 rfl (by decide) _ _ _ rfl (hin.alloc _) ⟨wr.heap.size, 0, none⟩ 1 1 _ rfl rfl (cell_one_new _ _ _) (by simp [Value.oneCell']) (by unfold maxLen; omega) (by omega) (by simp; omega) ?_; intro vi w3 hin3 hgrow3 hnil3 hat3; have hout3 := (hout.alloc _).kept hgrow3 (dis_sym hdis); have hb3 := below_app1 hb (Nat.le_refl _) hin hgrow3; have hbs3 := hb3.size)
            | (have := hout3; at_builtin; refine wpList_append_own_at _ rfl _ _ 22 rfl w1.heap.size 5 i0 (.int .u8 0) 1 1 Tryz.underlying22 hi hz0 hz1 hz2 rfl (by decide) _ _ _ rfl (hout3.alloc _) ⟨w3.heap.size, 0, none⟩ 1 1 _ rfl rfl (cell_one_new _ _ _) (by simp [Value.oneCell']) (by unfold maxLen; omega) (by omega) (by simp; omega) ?_; intro vo w4 hout4 hgrow4 hnil4 hat4))
          have hdis3 : vi.ownBlock = none ∨ vi.ownBlock ≠ (Value.slice Ao k co).ownBlock := by
            rcases hat3 with e3 | e3
            · rw [e3]; exact hdis
            · exact dis_sym (dis_new (fun x hx => own_lt (hout.alloc _) hx) e3)
          have hin4 := (hin3.alloc _).kept hgrow4 hdis3
          have hb4 := below_app1 hb3 (Nat.le_refl _) hout3 hgrow4
          have hdis4 : vi.ownBlock = none ∨ vi.ownBlock ≠ vo.ownBlock := by
            rcases hat4 with e4 | e4
            · rw [e4]; exact hdis3
            · exact dis_new (fun x hx => own_lt (hin3.alloc _) hx) e4
          have HI4 := Lib.hid hin4
          have HO4 := Lib.hid hout4
          clear hin hout hin3 hout3 hgrow3 hnil3 hat3 hgrow4 hnil4 hat4 hin4 hout4 hdis hdis3 hb hb3
          go_wp2
          go_roundw
          case rel => exact ⟨k + 1, by omega, by go_num, by rw [E54.out]; exact HI4.out, by rw [E92.out]; exact HO4.out, hdis4, hb4⟩
          case measure => simp [intOf]; omega
        · rw [HHI.out k (by omega) (by rw [HBL.out]; exact hlt)] at E54 E92
          go_wp2_with (first
            | (at_builtin; refine wpList_append_own_at _ rfl _ _ 22 rfl w1.heap.size 5 i0 (.int .u8 0) 1 1 Tryz.underlying22 hi hz0 hz1 hz2 rfl (by decide) _ _ _ rfl (hin.alloc _) ⟨wr.heap.size, 0, none⟩ 1 1 _ rfl rfl (cell_one_new _ _ _) (by simp [Value.oneCell']) (by unfold maxLen; omega) (by omega) (by simp; omega) ?_; intro vi w3 hin3 hgrow3 hnil3 hat3; have hout3 := (hout.alloc _).kept hgrow3 (dis_sym hdis); have hb3 := below_app1 hb (Nat.le_refl _) hin hgrow3; have hbs3 := hb3.size)
            | (have := hout3; at_builtin; refine wpList_append_own_at _ rfl _ _ 22 rfl w1.heap.size 5 i0 (.int .u8 0) 1 1 Tryz.underlying22 hi hz0 hz1 hz2 rfl (by decide) _ _ _ rfl (hout3.alloc _) ⟨w3.heap.size, 0, none⟩ 1 1 _ rfl rfl (cell_one_new _ _ _) (by simp [Value.oneCell']) (by unfold maxLen; omega) (by omega) (by simp; omega) ?_; intro vo w4 hout4 hgrow4 hnil4 hat4))
          have hdis3 : vi.ownBlock = none ∨ vi.ownBlock ≠ (Value.slice Ao k co).ownBlock := by
            rcases hat3 with e3 | e3
            · rw [e3]; exact hdis
            · exact dis_sym (dis_new (fun x hx => own_lt (hout.alloc _) hx) e3)
          have hin4 := (hin3.alloc _).kept hgrow4 hdis3
          have hb4 := below_app1 hb3 (Nat.le_refl _) hout3 hgrow4
          have hdis4 : vi.ownBlock = none ∨ vi.ownBlock ≠ vo.ownBlock := by
            rcases hat4 with e4 | e4
            · rw [e4]; exact hdis3
            · exact dis_new (fun x hx => own_lt (hin3.alloc _) hx) e4
          have HI4 := Lib.hid hin4
          have HO4 := Lib.hid hout4
          clear hin hout hin3 hout3 hgrow3 hnil3 hat3 hgrow4 hnil4 hat4 hin4 hout4 hdis hdis3 hb hb3
          go_wp2
          go_roundw
          case rel => exact ⟨k + 1, by omega, by go_num, by rw [E54.out]; exact HI4.out, by rw [E92.out]; exact HO4.out, hdis4, hb4⟩
          case measure => simp [intOf]; omega
      · have HK : Hid (k = b.length) := (by have := HBL.out; omega : k = b.length)
        rw [HK.out, List.take_length] at hin hout
        rw [HBL.out] at hin hout
        have hz : k = 64 := by omega
        subst hz
        have hsi := Sl.own hin
        have hso := Sl.own hout
        have hni := own_none hin
        have hno := own_none hout
        have h2r := h2.nx hb
        have hbwr := next hbw hb
        clear hin hout hdis hb
        go_wp2_with fail
        refine (join_any (kx 54 b) m _ _ _ _ _ _ _ _ hsi h2r hni hA' (by omega) (by omega) (Nat.le_refl _)).mono ?_
        rintro e w5 ⟨A5, c5, rfl, h5⟩
        have hso5 := hso.nx h5.below
        have hbw5 := next hbwr h5.below
        have hs5 := h5.sl
        have hn5 := h5.none_
        clear hsi hso h2r h5 hbwr
        go_wp2_with fail
        refine (rof_any (kx 54 b ++ m) _ _ _ _ _ hs5 hn5 (Nat.le_refl _) (by omega)).mono ?_
        rintro e w6 ⟨A6, c6, rfl, h6⟩
        have hso6 := hso5.nx h6.below
        have hbw6 := next hbw5 h6.below
        have hs6 := h6.sl
        have hn6 := h6.none_
        clear hso5 hs5 h6 hbw5
        go_wp2_with fail
        refine (join_any (kx 92 b) (sha (kx 54 b ++ m)) _ _ _ _ _ _ _ _ hso6 hs6 hno hn6 (by omega) (by omega) (Nat.le_refl _)).mono ?_
        rintro e w7 ⟨A7, c7, rfl, h7⟩
        have hbw7 := next hbw6 h7.below
        have hs7 := h7.sl
        have hn7 := h7.none_
        clear hso6 hs6 h7 hbw6
        go_wp2_with fail
        refine (rof_any (kx 92 b ++ sha (kx 54 b ++ m)) _ _ _ _ _ hs7 hn7 (Nat.le_refl _) (by omega)).mono ?_
        rintro e w8 ⟨A8, c8, rfl, h8⟩
        go_wp2
        go_ret
        rw [HR.out]
        exact ⟨A8, c8, rfl, h8.down hbw7⟩
  · have hS2 : S = key := by rw [hS, kshort_low hlong]
    subst hS2
    have hbw := Below.refl w.heap.size w
    have hnS : S.length = S.length := rfl
    have hs1 := h1
    clear hS h1 hA
    go_enter Tryz.func65, Tryz.ntmps65
    go_wp2_with fail
    go_loopw [5, 6, 7] (fun vi vo i wr => TagR w 5 b vi vo i wr) (fun _ _ i _ => 64 - (intOf i).toNat)
    case atStart => exact ⟨0, by omega, rfl, ⟨rfl, .inl ⟨rfl, rfl⟩⟩, ⟨rfl, .inl ⟨rfl, rfl⟩⟩, .inl rfl, Below.refl _ _⟩
    case round =>
      obtain ⟨k, hk, rfl, hin, hout, hdis, hb⟩ := hrel
      have hbs := hb.size
      obtain ⟨Ai, ci, rfl⟩ := own_form hin
      obtain ⟨Ao, co, rfl⟩ := own_form hout
      by_cases hlt : k < 64
      · have E54 := Lib.hid (kx54_next b k (by rw [HBL.out]; exact hlt))
        have E92 := Lib.hid (kx92_next b k (by rw [HBL.out]; exact hlt))
        by_cases hin0 : k < S.length
        · have hsr := hs1.below hb
          obtain ⟨ad, e1, hadb, hcell⟩ := hsr.byte (j := k) (by omega)
          rw [HLO.out k (by omega) (by rw [HBL.out]; exact hlt)] at E54 E92
          obtain ⟨x, hx⟩ : ∃ x, x = S[k]'(by omega) := ⟨_, rfl⟩
          rw [← hx] at E54 E92 hcell
          clear hx
          have hxl := x.toNat_lt
          subst e1
          clear hsr
          go_wp2_with (first
            | (at_builtin; refine wpList_append_own_at _ rfl _ _ 22 rfl w.heap.size 5 i0 (.int .u8 0) 1 1 Tryz.underlying22 hi hz0 hz1 hz2 rfl (by decide) _ _ _ rfl (hin.alloc _) ⟨wr.heap.size, 0, none⟩ 1 1 _ rfl rfl (cell_one_new _ _ _) (by simp [Value.oneCell']) (by unfold maxLen; omega) (by omega) (by simp; omega) ?_; intro vi w3 hin3 hgrow3 hnil3 hat3; have hout3 := (hout.alloc _).kept hgrow3 (dis_sym hdis); have hb3 := below_app1 hb (Nat.le_refl _) hin hgrow3; have hbs3 := hb3.size)
            | (have := hout3; at_builtin; refine wpList_append_own_at _ rfl _ _ 22 rfl w.heap.size 5 i0 (.int .u8 0) 1 1 Tryz.underlying22 hi hz0 hz1 hz2 rfl (by decide) _ _ _ rfl (hout3.alloc _) ⟨w3.heap.size, 0, none⟩ 1 1 _ rfl rfl (cell_one_new _ _ _) (by simp [Value.oneCell']) (by unfold maxLen; omega) (by omega) (by simp; omega) ?_; intro vo w4 hout4 hgrow4 hnil4 hat4))
          have hdis3 : vi.ownBlock = none ∨ vi.ownBlock ≠ (Value.slice Ao k co).ownBlock := by
            rcases hat3 with e3 | e3
            · rw [e3]; exact hdis
            · exact dis_sym (dis_new (fun x hx => own_lt (hout.alloc _) hx) e3)
          have hin4 := (hin3.alloc _).kept hgrow4 hdis3
          have hb4 := below_app1 hb3 (Nat.le_refl _) hout3 hgrow4
          have hdis4 : vi.ownBlock = none ∨ vi.ownBlock ≠ vo.ownBlock := by
            rcases hat4 with e4 | e4
            · rw [e4]; exact hdis3
            · exact dis_new (fun x hx => own_lt (hin3.alloc _) hx) e4
          have HI4 := Lib.hid hin4
          have HO4 := Lib.hid hout4
          clear hin hout hin3 hout3 hgrow3 hnil3 hat3 hgrow4 hnil4 hat4 hin4 hout4 hdis hdis3 hb hb3
          go_wp2
          go_roundw
          case rel => exact ⟨k + 1, by omega, by go_num, by rw [E54.out]; exact HI4.out, by rw [E92.out]; exact HO4.out, hdis4, hb4⟩
          case measure => simp [intOf]; omega
        · rw [HHI.out k (by omega) (by rw [HBL.out]; exact hlt)] at E54 E92
          go_wp2_with (first
            | (at_builtin; refine wpList_append_own_at _ rfl _ _ 22 rfl w.heap.size 5 i0 (.int .u8 0) 1 1 Tryz.underlying22 hi hz0 hz1 hz2 rfl (by decide) _ _ _ rfl (hin.alloc _) ⟨wr.heap.size, 0, none⟩ 1 1 _ rfl rfl (cell_one_new _ _ _) (by simp [Value.oneCell']) (by unfold maxLen; omega) (by omega) (by simp; omega) ?_; intro vi w3 hin3 hgrow3 hnil3 hat3; have hout3 := (hout.alloc _).kept hgrow3 (dis_sym hdis); have hb3 := below_app1 hb (Nat.le_refl _) hin hgrow3; have hbs3 := hb3.size)
            | (have := hout3; at_builtin; refine wpList_append_own_at _ rfl _ _ 22 rfl w.heap.size 5 i0 (.int .u8 0) 1 1 Tryz.underlying22 hi hz0 hz1 hz2 rfl (by decide) _ _ _ rfl (hout3.alloc _) ⟨w3.heap.size, 0, none⟩ 1 1 _ rfl rfl (cell_one_new _ _ _) (by simp [Value.oneCell']) (by unfold maxLen; omega) (by omega) (by simp; omega) ?_; intro vo w4 hout4 hgrow4 hnil4 hat4))
          have hdis3 : vi.ownBlock = none ∨ vi.ownBlock ≠ (Value.slice Ao k co).ownBlock := by
            rcases hat3 with e3 | e3
            · rw [e3]; exact hdis
            · exact dis_sym (dis_new (fun x hx => own_lt (hout.alloc _) hx) e3)
          have hin4 := (hin3.alloc _).kept hgrow4 hdis3
          have hb4 := below_app1 hb3 (Nat.le_refl _) hout3 hgrow4
          have hdis4 : vi.ownBlock = none ∨ vi.ownBlock ≠ vo.ownBlock := by
            rcases hat4 with e4 | e4
            · rw [e4]; exact hdis3
            · exact dis_new (fun x hx => own_lt (hin3.alloc _) hx) e4
          have HI4 := Lib.hid hin4
          have HO4 := Lib.hid hout4
          clear hin hout hin3 hout3 hgrow3 hnil3 hat3 hgrow4 hnil4 hat4 hin4 hout4 hdis hdis3 hb hb3
          go_wp2
          go_roundw
          case rel => exact ⟨k + 1, by omega, by go_num, by rw [E54.out]; exact HI4.out, by rw [E92.out]; exact HO4.out, hdis4, hb4⟩
          case measure => simp [intOf]; omega
      · have HK : Hid (k = b.length) := (by have := HBL.out; omega : k = b.length)
        rw [HK.out, List.take_length] at hin hout
        rw [HBL.out] at hin hout
        have hz : k = 64 := by omega
        subst hz
        have hsi := Sl.own hin
        have hso := Sl.own hout
        have hni := own_none hin
        have hno := own_none hout
        have h2r := h2.nx hb
        have hbwr := next hbw hb
        clear hin hout hdis hb
        go_wp2_with fail
        refine (join_any (kx 54 b) m _ _ _ _ _ _ _ _ hsi h2r hni hA' (by omega) (by omega) (Nat.le_refl _)).mono ?_
        rintro e w5 ⟨A5, c5, rfl, h5⟩
        have hso5 := hso.nx h5.below
        have hbw5 := next hbwr h5.below
        have hs5 := h5.sl
        have hn5 := h5.none_
        clear hsi hso h2r h5 hbwr
        go_wp2_with fail
        refine (rof_any (kx 54 b ++ m) _ _ _ _ _ hs5 hn5 (Nat.le_refl _) (by omega)).mono ?_
        rintro e w6 ⟨A6, c6, rfl, h6⟩
        have hso6 := hso5.nx h6.below
        have hbw6 := next hbw5 h6.below
        have hs6 := h6.sl
        have hn6 := h6.none_
        clear hso5 hs5 h6 hbw5
        go_wp2_with fail
        refine (join_any (kx 92 b) (sha (kx 54 b ++ m)) _ _ _ _ _ _ _ _ hso6 hs6 hno hn6 (by omega) (by omega) (Nat.le_refl _)).mono ?_
        rintro e w7 ⟨A7, c7, rfl, h7⟩
        have hbw7 := next hbw6 h7.below
        have hs7 := h7.sl
        have hn7 := h7.none_
        clear hso6 hs6 h7 hbw6
        go_wp2_with fail
        refine (rof_any (kx 92 b ++ sha (kx 54 b ++ m)) _ _ _ _ _ hs7 hn7 (Nat.le_refl _) (by omega)).mono ?_
        rintro e w8 ⟨A8, c8, rfl, h8⟩
        go_wp2
        go_ret
        rw [HR.out]
        exact ⟨A8, c8, rfl, h8.down hbw7⟩

end Go.Proofs.YtlnoopmblmkgkaaGreatDoor

namespace Go.Proofs.YtlnoopmblmkgkaaGreatDoor
set_option maxRecDepth 100000
open Go.RowKit
set_option linter.unusedVariables false
set_option linter.unusedSimpArgs false

end Go.Proofs.YtlnoopmblmkgkaaGreatDoor
