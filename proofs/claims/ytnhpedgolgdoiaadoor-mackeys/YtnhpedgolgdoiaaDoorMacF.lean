/- Tag, Holds, each and Many of package mac; a Key that may be nil. -/
import Derived.Test.YtnhpedgolgdoiaaDoorMacE
namespace Go.Proofs.YtnhpedgolgdoiaaDoor
open Go.RowKit
set_option linter.unusedVariables false
set_option linter.unusedSimpArgs false

set_option maxHeartbeats 400000 in
theorem tag_any (key : List UInt8) (ls : List (List UInt8)) (w : World) (B B' : Nat) (A A' : Option Addr) (n c n' c' : Nat) (h : Sl w B A n (cb key)) (hc : n ≤ c) (hA : A = none → c = 0) (hB : B ≤ w.heap.size) (hm : n ≤ 100000000) (hp : Parts w B' A' n' ls) (hB' : B' ≤ w.heap.size) (hn : n' ≤ 1000000000) (hT : Tabs w) (hl : ls.flatten.length ≤ 10000000) :
    Calls Tryd.prog 14 #[.slice A n c, .slice A' n' c'] w fun e w' => e = .returned (.agg (cb (hmac key ls.flatten)).toArray) ∧ Below w.heap.size w w' := by
  have HT := Lib.hid hT
  clear hT
  have HRL := Lib.hid (hmac_len key ls.flatten)
  obtain ⟨R, hR⟩ : ∃ R, R = hmac key ls.flatten := ⟨_, rfl⟩
  rw [← hR] at HRL ⊢
  have HR := Lib.hid hR
  clear hR
  have b0 := Bl.new w (zeros .u8 32) 28
  have hb0 : Below w.heap.size w (w.alloc (.cells (zeros .u8 32).toArray 28)) := (Below.refl _ w).alloc (Nat.le_refl _) _
  obtain ⟨W0, hW0⟩ : ∃ W, W = w.alloc (.cells (zeros .u8 32).toArray 28) := ⟨_, rfl⟩
  rw [← hW0] at b0 hb0
  have HW0 := Lib.hid hW0
  clear hW0
  have h1 := (h.up hB).below hb0
  go_enter Tryd.func14, Tryd.ntmps14
  go_wp2_with (refine wpList_alloc_zero rfl 28 rfl (zeros .u8 32) zero_sum ?_; rw [← HW0.out])
  refine (mnew_any key _ _ _ _ _ h1 hc hA hb0.size (HT.out.next hb0) hm).mono ?_
  rintro e w1 ⟨gk, rfl, hgk, hky, hb1⟩
  have b01 := b0.next hb1
  have hbw1 := next hb0 hb1
  have hp1 := hp.below (hbw1.mono hB')
  clear b0 hb0 hb1 h1
  go_wp2_with fail
  refine (ktag_any gk key ls _ _ _ _ _ hky hp1 (Nat.le_trans hB' hbw1.size) hn (HT.out.next hbw1) hl).mono ?_
  rintro e w2 ⟨rfl, hb2⟩
  rw [← HR.out]
  have b02 := b01.next hb2
  have hbw2 := next hbw1 hb2
  clear b01 hbw1 hb2 hky hp1
  go_wp2_with (refine wpList_store_mid rfl 28 _ _ rfl _ _ (cb R).toArray rfl rfl (b02.there_ (by simp [zeros, cb_len, HRL.out])) (by rw [size_sum, List.size_toArray, cb_len, HRL.out]) (all_oneCell_toArray (cb_one _)) ?_)
  have hf := b02.over (vs := cb R) (by rw [cb_len, HRL.out, zeros_len])
  exact ret_row Tryd.results14 rfl hf Tryd.underlying28 rfl (by rw [size_sum, cb_len, HRL.out]) rfl ⟨rfl, below_setCells hbw2 (Nat.le_refl _) _ _⟩

set_option maxHeartbeats 400000 in
theorem ktag_nil (ls : List (List UInt8)) (w : World) (B : Nat) (A : Option Addr) (n c : Nat) (hp : Parts w B A n ls) (hB : B ≤ w.heap.size) (hn : n ≤ 1000000000) (hT : Tabs w) (hm : ls.flatten.length ≤ 10000000) :
    Calls Tryd.prog 16 #[.pointer none, .slice A n c] w fun e w' => e = .returned (.agg (cb (hmac [] ls.flatten)).toArray) ∧ Below w.heap.size w w' := by
  have HT := Lib.hid hT
  clear hT
  have HRL := Lib.hid (hmac_len [] ls.flatten)
  obtain ⟨R, hR⟩ : ∃ R, R = hmac [] ls.flatten := ⟨_, rfl⟩
  rw [← hR] at HRL ⊢
  have HR := Lib.hid hR
  clear hR
  have b0 := Bl.new w (zeros .u8 32) 28
  have hb0 : Below w.heap.size w (w.alloc (.cells (zeros .u8 32).toArray 28)) := (Below.refl _ w).alloc (Nat.le_refl _) _
  obtain ⟨W0, hW0⟩ : ∃ W, W = w.alloc (.cells (zeros .u8 32).toArray 28) := ⟨_, rfl⟩
  rw [← hW0] at b0 hb0
  have HW0 := Lib.hid hW0
  clear hW0
  have hp1 := hp.below (hb0.mono hB)
  go_enter Tryd.func16, Tryd.ntmps16
  go_wp2_with (refine wpList_alloc_zero rfl 28 rfl (zeros .u8 32) zero_sum ?_; rw [← HW0.out])
  refine (tag_any [] ls _ 0 B none A 0 0 n c Sl.nil_ (Nat.le_refl _) (fun _ => rfl) (Nat.zero_le _) (by omega) hp1 (Nat.le_trans hB hb0.size) hn (HT.out.next hb0) hm).mono ?_
  rintro e w2 ⟨rfl, hb2⟩
  rw [← HR.out]
  have b02 := b0.next hb2
  have hbw2 := next hb0 hb2
  clear b0 hb0 hb2 hp1
  go_wp2_with (refine wpList_store_mid rfl 28 _ _ rfl _ _ (cb R).toArray rfl rfl (b02.there_ (by simp [zeros, cb_len, HRL.out])) (by rw [size_sum, List.size_toArray, cb_len, HRL.out]) (all_oneCell_toArray (cb_one _)) ?_)
  have hf := b02.over (vs := cb R) (by rw [cb_len, HRL.out, zeros_len])
  exact ret_row Tryd.results16 rfl hf Tryd.underlying28 rfl (by rw [size_sum, cb_len, HRL.out]) rfl ⟨rfl, below_setCells hbw2 (Nat.le_refl _) _ _⟩

/-- A Key, or nil, which is the empty key's. -/
def Kp (w : World) (p : Option Addr) (key : List UInt8) : Prop := (∃ g, p = some ⟨g, 0, none⟩ ∧ Ky w g key) ∨ (p = none ∧ key = [])
theorem Kp.next {w w' : World} {p : Option Addr} {key : List UInt8} (h : Kp w p key) (hb : Below w.heap.size w w') : Kp w' p key := by
  rcases h with ⟨g, e, h⟩ | h
  · exact .inl ⟨g, e, h.next hb⟩
  · exact .inr h
/-- A Key that lies below a block that turns. -/
theorem Kp.below {w w' : World} {p : Option Addr} {key : List UInt8} {B : Nat} (h : Kp w p key) (hB : w.heap.size ≤ B) (hb : Below w.heap.size w w') : Kp w' p key := h.next hb

theorem kptag_any (p : Option Addr) (key : List UInt8) (ls : List (List UInt8)) (w : World) (B : Nat) (A : Option Addr) (n c : Nat) (hk : Kp w p key) (hp : Parts w B A n ls) (hB : B ≤ w.heap.size) (hn : n ≤ 1000000000) (hT : Tabs w) (hm : ls.flatten.length ≤ 10000000) :
    Calls Tryd.prog 16 #[.pointer p, .slice A n c] w fun e w' => e = .returned (.agg (cb (hmac key ls.flatten)).toArray) ∧ Below w.heap.size w w' := by
  rcases hk with ⟨g, rfl, hk⟩ | ⟨rfl, rfl⟩
  · exact ktag_any g key ls w B A n c hk hp hB hn hT hm
  · exact ktag_nil ls w B A n c hp hB hn hT hm

set_option maxHeartbeats 400000 in
theorem holds_any (p : Option Addr) (key tag : List UInt8) (ls : List (List UInt8)) (w : World) (B B' : Nat) (A A' : Option Addr) (n c n' c' : Nat) (hk : Kp w p key) (h : Sl w B' A' n' (cb tag)) (hB' : B' ≤ w.heap.size) (hn' : n' ≤ maxLen) (hp : Parts w B A n ls) (hB : B ≤ w.heap.size) (hn : n ≤ 1000000000) (hT : Tabs w) (hm : ls.flatten.length ≤ 10000000) :
    Calls Tryd.prog 18 #[.pointer p, .slice A' n' c', .slice A n c] w fun e w' => e = .returned (.bool (sameB tag (hmac key ls.flatten))) ∧ Below w.heap.size w w' := by
  have HRL := Lib.hid (hmac_len key ls.flatten)
  obtain ⟨R, hR⟩ : ∃ R, R = hmac key ls.flatten := ⟨_, rfl⟩
  rw [← hR] at HRL ⊢
  have HR := Lib.hid hR
  clear hR
  go_enter Tryd.func18, Tryd.ntmps18
  go_wp2_with fail
  refine (kptag_any p key ls _ _ _ _ _ hk hp hB hn hT hm).mono ?_
  rintro e w3 ⟨rfl, hb3⟩
  rw [← HR.out]
  have hn3 := (Bl.new w3 (zeros .u8 32) 28)
  obtain ⟨W4, hW4⟩ : ∃ W, W = (w3.alloc (.cells (zeros .u8 32).toArray 28)).setCells w3.heap.size 0 (cb R) := ⟨_, rfl⟩
  have b24 : Bl W4 w3.heap.size (cb R) 28 := by rw [hW4]; exact hn3.over (by rw [cb_len, HRL.out, zeros_len])
  have hb4 : Below w3.heap.size w3 W4 := by rw [hW4]; exact below_setCells ((Below.refl _ w3).alloc (Nat.le_refl _) _) (Nat.le_refl _) _ _
  have hbw4 := next hb3 hb4
  have ht4 := h.below (hbw4.mono hB')
  have hs4 : Sl W4 (w3.heap.size + 1) (some ⟨w3.heap.size, 0, none⟩) 32 (cb R) := b24.sl (o := 0) (n := 32) (by rw [List.drop_zero, List.take_of_length_le (by rw [cb_len, HRL.out]; omega)]) (by rw [cb_len, HRL.out]; omega)
  have HW4 := Lib.hid hW4
  clear hW4 hn3 hb4 b24 hb3 hk hp
  go_wp2_with (first
    | (refine wpList_alloc_zero rfl 28 rfl (zeros .u8 32) zero_sum ?_)
    | (refine wpList_store_mid rfl 28 _ _ rfl _ _ (cb R).toArray rfl rfl (Bl.there_ (Bl.new _ (zeros .u8 32) 28) (by simp [zeros, cb_len, HRL.out])) (by rw [size_sum, List.size_toArray, cb_len, HRL.out]) (all_oneCell_toArray (cb_one _)) ?_; change wpList _ _ _ _ _ (World.setCells (w3.alloc (.cells (zeros .u8 32).toArray 28)) w3.heap.size 0 (cb R)); rw [← HW4.out]))
  refine (same_any tag R _ _ _ _ _ _ _ _ _ ht4 hs4 hn' (by unfold maxLen; omega)).mono ?_
  rintro e w5 ⟨rfl, hd⟩
  go_wp2
  go_ret
  exact ⟨rfl, hbw4.trans (hd.below _)⟩

end Go.Proofs.YtnhpedgolgdoiaaDoor

