/- The walks of the laws DigestSums, DigestNobody, DigestCopies. -/
import Derived.Test.YtfmbilnbbpbpeaaDoorDigV
namespace Go.Proofs.YtfmbilnbbpbpeaaDoor
open Go.RowKit
set_option linter.unusedVariables false

set_option maxHeartbeats 600000 in
theorem join_any (a b : List UInt8) (w : World) (B : Nat) (A A' : Option Addr) (n m c c' : Nat) (h : Sl w B A n (cb a)) (h' : Sl w B A' m (cb b)) (hA : A = none → c = 0) (hA' : A' = none → c' = 0) (hn : n ≤ 100000000) (hm : m ≤ 100000000) (hB : B ≤ w.heap.size) :
    Calls Tryd.prog 12 #[.slice A n c, .slice A' m c'] w (RetBytes 5 w (n + m) (a ++ b)) := by
  obtain ⟨i0, hi, hz0, hz1, hz2⟩ := info_parts u8_info
  have h0 := World.ownsRow_lit (base := w.heap.size) (e := 5) (size := 1) w #[] 0 (Nat.le_refl _) (by decide) rfl
  have HL : Hid (cb (a ++ b) = cb a ++ cb b) := cb_append a b
  go_enter Tryd.func12, Tryd.ntmps12
  go_wp2_with (first
    | (at_builtin; refine wpList_append_sl _ rfl _ _ 22 rfl w.heap.size 5 i0 (.int .u8 0) 1 Tryd.underlying22 hi hz0 hz1 hz2 rfl _ 0 [] rfl h0 B A n c (cb a) rfl (h.alloc hB _) hA (cb_one a) (by unfold maxLen; omega) (by omega) (by simp) ?_; intro v1 w1 hown1 hgrow1 hat1; have hb1 : Below w.heap.size w w1 := below_app ((Below.refl w.heap.size w).alloc (Nat.le_refl _) _) (Nat.le_refl _) h0 hgrow1; have h2 := h'.below (hb1.mono hB))
    | (at_builtin; refine wpList_append_sl _ rfl _ _ 22 rfl w.heap.size 5 i0 (.int .u8 0) 1 Tryd.underlying22 hi hz0 hz1 hz2 rfl _ (0 + n) ([] ++ cb a) rfl hown1 B A' m c' (cb b) rfl h2 hA' (cb_one b) (by unfold maxLen; omega) (by omega) hb1.size ?_; intro v2 w2 hown2 hgrow2 hat2; have hb2 : Below w.heap.size w w2 := below_app hb1 (Nat.le_refl _) hown1 hgrow2))
  go_ret
  rw [List.nil_append, ← HL.out] at hown2
  exact retBytes (by omega) rfl hown2 hb2

/-- A slice that reads as cells does so behind the next call. -/
theorem Sl.nx {w w' : World} {A : Option Addr} {n : Nat} {xs : List Value} (h : Sl w w.heap.size A n xs) (hb : Below w.heap.size w w') : Sl w' w'.heap.size A n xs := (h.below hb).up hb.size
theorem Sl.nb {w w' : World} {g : Nat} {A : Option Addr} {n : Nat} {xs : List Value} (h : Sl w w.heap.size A n xs) (hb : w.grownBy w' (some g)) (ho : Off g n A) : Sl w' w'.heap.size A n xs := (sl_off h hb (Nat.le_refl _) ho).up hb.size
/-- One part in a list of its own. -/
theorem list_one {w : World} {A : Option Addr} {c : Nat} {l : List UInt8} (t : TypeId) (hs : Sl w w.heap.size A l.length (cb l)) (hc : l.length ≤ c) (hz : A = none → c = 0) :
    Parts (w.alloc (.cells #[.slice A l.length c] t)) (w.alloc (.cells #[.slice A l.length c] t)).heap.size (some ⟨w.heap.size, 0, none⟩) 1 [l] ∧ Below w.heap.size w (w.alloc (.cells #[.slice A l.length c] t)) := by
  have hb : Below w.heap.size w (w.alloc (.cells #[.slice A l.length c] t)) := (Below.refl _ w).alloc (Nat.le_refl _) _
  exact ⟨parts_one (Bl.newA w #[.slice A l.length c] t) (by simp) (hs.nx hb) hc hz, hb⟩

end Go.Proofs.YtfmbilnbbpbpeaaDoor

