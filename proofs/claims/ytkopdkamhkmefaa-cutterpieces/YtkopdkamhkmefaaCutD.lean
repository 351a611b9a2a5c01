/- bytes.Clone, and the clone without spare room. -/
import Derived.Test.YtkopdkamhkmefaaCutE
namespace Go.Proofs.Ytkopdkamhkmefaa
set_option maxRecDepth 100000
open Go Go.RowKit
set_option linter.unusedVariables false
set_option linter.unusedSimpArgs false

theorem bclone_any (l : List UInt8) (w : World) (B : Nat) (A : Option Addr) (n c : Nat) (h : Sl w B A n (cb l)) (hA : A = none → c = 0) (hc : n ≤ c) (hm : n ≤ 140737488355328) (hB : B ≤ w.heap.size) :
    Calls Try.prog 24 #[.slice A n c] w (RetBytes 5 w n l) := by
  cases A with
  | none =>
    obtain rfl : c = 0 := hA rfl
    obtain rfl : n = 0 := by omega
    have hl : l = [] := by
      have := h.1
      rw [cb_len] at this
      exact List.eq_nil_of_length_eq_zero this
    subst hl
    have he : ∀ w : World, (binOp .eql 25 (.slice none 0 0) (.slice none 0 0)).run Try.prog w = .ok (.bool true) w := fun _ => rfl
    clear h
    go_enter Try.func24, Try.ntmps24
    go_wp2
    go_ret
    exact retBytes rfl rfl (World.ownsRow_nil _ _ _ _) (Below.refl _ _)
  | some ad =>
    obtain ⟨i0, hi, hz0, hz1, hz2⟩ := info_parts u8_info
    have he : ∀ w : World, (binOp .eql 25 (.slice (some ad) n c) (.slice none 0 0)).run Try.prog w = .ok (.bool false) w := fun _ => rfl
    have h0 := World.ownsRow_lit (base := w.heap.size) (e := 5) (size := 1) w #[] 0 (Nat.le_refl _) (by decide) rfl
    go_enter Try.func24, Try.ntmps24
    go_wp2_with (at_builtin; refine wpList_append_sl _ rfl _ _ 25 rfl w.heap.size 5 i0 (.int .u8 0) 1 Try.underlying25 hi hz0 hz1 hz2 rfl _ 0 [] rfl h0 B (some ad) n c (cb l) rfl (h.alloc hB _) hA (cb_one l) (by unfold maxLen; omega) (by omega) (by simp) ?_; intro v' w1 hown' hgrow hat)
    have hb1 : Below w.heap.size w w1 := below_app ((Below.refl w.heap.size w).alloc (Nat.le_refl _) _) (Nat.le_refl _) h0 hgrow
    clear hgrow hat h0
    go_wp2
    go_ret
    exact retBytes (by omega) (by simp) hown' hb1

/-- What cloned gives: the bytes in new memory, with no spare room. -/
def RetTight (w : World) (n : Nat) (l : List UInt8) (e : Ending) (w' : World) : Prop := ∃ X d, e = .returned (.slice X n n) ∧ w'.ownsRow w.heap.size 5 1 (.slice X n d) n (cb l) ∧ Below w.heap.size w w'

theorem cloned_any (l : List UInt8) (w : World) (B : Nat) (A : Option Addr) (n c : Nat) (h : Sl w B A n (cb l)) (hA : A = none → c = 0) (hc : n ≤ c) (hm : n ≤ 140737488355328) (hB : B ≤ w.heap.size) :
    Calls Try.prog 27 #[.slice A n c] w (RetTight w n l) := by
  have HCL := Lib.hid (bclone_any l w B A n c h hA hc hm hB)
  clear h hA
  go_enter Try.func27, Try.ntmps27
  go_wp2_with fail
  refine HCL.out.mono ?_
  rintro e w1 ⟨X, d, rfl, hx⟩
  have hcp := own_cap hx.own
  have hown := hx.own
  have hb := hx.below
  clear hx
  go_wp2_with (first
    | (refine wpList_slice_hm rfl 25 _ _ _ rfl 5 Try.underlying25 u8_size X n d n n .i64 .i64 _ _ rfl rfl rfl rfl rfl (Nat.le_refl _) hcp ?_)
    | fail)
  go_ret
  exact ⟨X, d, rfl, hown, hb⟩

end Go.Proofs.Ytkopdkamhkmefaa
