/- Tag, Holds, each and Many of package mac; a Key that may be nil. -/
import Derived.Test.YtfmbilnbbpbpeaaDoorMacE
namespace Go.Proofs.YtfmbilnbbpbpeaaDoor
open Go.RowKit
set_option linter.unusedVariables false
set_option linter.unusedSimpArgs false

set_option maxHeartbeats 400000 in
theorem tag_any (key : List UInt8) (ls : List (List UInt8)) (w : World) (B B' : Nat) (A A' : Option Addr) (n c n' c' : Nat) (h : Sl w B A n (cb key)) (hc : n ≤ c) (hA : A = none → c = 0) (hB : B ≤ w.heap.size) (hm : n ≤ 100000000) (hp : Parts w B' A' n' ls) (hB' : B' ≤ w.heap.size) (hn : n' ≤ 1000000000) (hT : Tabs w) (hl : ls.flatten.length ≤ 10000000) :
    Calls Tryd.prog 28 #[.slice A n c, .slice A' n' c'] w fun e w' => e = .returned (.agg (cb (hmac key ls.flatten)).toArray) ∧ Below w.heap.size w w' := by
  have HT := Lib.hid hT
  clear hT
  have HRL := Lib.hid (hmac_len key ls.flatten)
  obtain ⟨R, hR⟩ : ∃ R, R = hmac key ls.flatten := ⟨_, rfl⟩
  rw [← hR] at HRL ⊢
  have HR := Lib.hid hR
  clear hR
  have b0 := Bl.new w (zeros .u8 32) 49
  have hb0 : Below w.heap.size w (w.alloc (.cells (zeros .u8 32).toArray 49)) := (Below.refl _ w).alloc (Nat.le_refl _) _
  obtain ⟨W0, hW0⟩ : ∃ W, W = w.alloc (.cells (zeros .u8 32).toArray 49) := ⟨_, rfl⟩
  rw [← hW0] at b0 hb0
  have HW0 := Lib.hid hW0
  clear hW0
  have h1 := (h.up hB).below hb0
  go_enter Tryd.func28, Tryd.ntmps28
  go_wp2_with (refine wpList_alloc_zero rfl 49 rfl (zeros .u8 32) zero_sum ?_; rw [← HW0.out])
  refine (mnew_any key _ _ _ _ _ h1 hc hA hb0.size (HT.out.next hb0) hm).mono ?_
  rintro e w1 ⟨gk, rfl, hgk, hky, hb1⟩
  have b01 := b0.next hb1
  have hbw1 := next hb0 hb1
  have hp1 := hp.below (hbw1.mono hB')
  clear b0 hb0 hb1 h1
  go_wp2_with fail
  refine (ktag_any gk key ls _ _ _ _ _ hky hp1 (Nat.le_trans hB' hbw1.size) hn (HT.out.next hbw1) hl).mono ?_
  rintro e w2 ⟨rfl, hb2⟩
  rw [← HR.out]
  have b02 := b01.next hb2
  have hbw2 := next hbw1 hb2
  clear b01 hbw1 hb2 hky hp1
  go_wp2_with (refine wpList_store_mid rfl 49 _ _ rfl _ _ (cb R).toArray rfl rfl (b02.there_ (by simp [zeros, cb_len, HRL.out])) (by rw [size_sum, List.size_toArray, cb_len, HRL.out]) (all_oneCell_toArray (cb_one _)) ?_)
  have hf := b02.over (vs := cb R) (by rw [cb_len, HRL.out, zeros_len])
  exact ret_row Tryd.results28 rfl hf Tryd.underlying49 rfl (by rw [size_sum, cb_len, HRL.out]) rfl ⟨rfl, below_setCells hbw2 (Nat.le_refl _) _ _⟩

set_option maxHeartbeats 400000 in
theorem ktag_nil (ls : List (List UInt8)) (w : World) (B : Nat) (A : Option Addr) (n c : Nat) (hp : Parts w B A n ls) (hB : B ≤ w.heap.size) (hn : n ≤ 1000000000) (hT : Tabs w) (hm : ls.flatten.length ≤ 10000000) :
    Calls Tryd.prog 20 #[.pointer none, .slice A n c] w fun e w' => e = .returned (.agg (cb (hmac [] ls.flatten)).toArray) ∧ Below w.heap.size w w' := by
  have HT := Lib.hid hT
  clear hT
  have HRL := Lib.hid (hmac_len [] ls.flatten)
  obtain ⟨R, hR⟩ : ∃ R, R = hmac [] ls.flatten := ⟨_, rfl⟩
  rw [← hR] at HRL ⊢
  have HR := Lib.hid hR
  clear hR
  have b0 := Bl.new w (zeros .u8 32) 49
  have hb0 : Below w.heap.size w (w.alloc (.cells (zeros .u8 32).toArray 49)) := (Below.refl _ w).alloc (Nat.le_refl _) _
  obtain ⟨W0, hW0⟩ : ∃ W, W = w.alloc (.cells (zeros .u8 32).toArray 49) := ⟨_, rfl⟩
  rw [← hW0] at b0 hb0
  have HW0 := Lib.hid hW0
  clear hW0
  have hp1 := hp.below (hb0.mono hB)
  go_enter Tryd.func20, Tryd.ntmps20
  go_wp2_with (refine wpList_alloc_zero rfl 49 rfl (zeros .u8 32) zero_sum ?_; rw [← HW0.out])
  refine (tag_any [] ls _ 0 B none A 0 0 n c Sl.nil_ (Nat.le_refl _) (fun _ => rfl) (Nat.zero_le _) (by omega) hp1 (Nat.le_trans hB hb0.size) hn (HT.out.next hb0) hm).mono ?_
  rintro e w2 ⟨rfl, hb2⟩
  rw [← HR.out]
  have b02 := b0.next hb2
  have hbw2 := next hb0 hb2
  clear b0 hb0 hb2 hp1
  go_wp2_with (refine wpList_store_mid rfl 49 _ _ rfl _ _ (cb R).toArray rfl rfl (b02.there_ (by simp [zeros, cb_len, HRL.out])) (by rw [size_sum, List.size_toArray, cb_len, HRL.out]) (all_oneCell_toArray (cb_one _)) ?_)
  have hf := b02.over (vs := cb R) (by rw [cb_len, HRL.out, zeros_len])
  exact ret_row Tryd.results20 rfl hf Tryd.underlying49 rfl (by rw [size_sum, cb_len, HRL.out]) rfl ⟨rfl, below_setCells hbw2 (Nat.le_refl _) _ _⟩

/-- A Key, or nil, which is the empty key's. -/
def Kp (w : World) (p : Option Addr) (key : List UInt8) : Prop := (∃ g, p = some ⟨g, 0, none⟩ ∧ Ky w g key) ∨ (p = none ∧ key = [])
theorem Kp.next {w w' : World} {p : Option Addr} {key : List UInt8} (h : Kp w p key) (hb : Below w.heap.size w w') : Kp w' p key := by
  rcases h with ⟨g, e, h⟩ | h
  · exact .inl ⟨g, e, h.next hb⟩
  · exact .inr h
/-- A Key that lies below a block that turns. -/
theorem Kp.below {w w' : World} {p : Option Addr} {key : List UInt8} {B : Nat} (h : Kp w p key) (hB : w.heap.size ≤ B) (hb : Below w.heap.size w w') : Kp w' p key := h.next hb

theorem kptag_any (p : Option Addr) (key : List UInt8) (ls : List (List UInt8)) (w : World) (B : Nat) (A : Option Addr) (n c : Nat) (hk : Kp w p key) (hp : Parts w B A n ls) (hB : B ≤ w.heap.size) (hn : n ≤ 1000000000) (hT : Tabs w) (hm : ls.flatten.length ≤ 10000000) :
    Calls Tryd.prog 20 #[.pointer p, .slice A n c] w fun e w' => e = .returned (.agg (cb (hmac key ls.flatten)).toArray) ∧ Below w.heap.size w w' := by
  rcases hk with ⟨g, rfl, hk⟩ | ⟨rfl, rfl⟩
  · exact ktag_any g key ls w B A n c hk hp hB hn hT hm
  · exact ktag_nil ls w B A n c hp hB hn hT hm

end Go.Proofs.YtfmbilnbbpbpeaaDoor

