/- The walk of the law EntropyNobody. -/
import Derived.Test.YtmemgiekkedeoaaLF
namespace Go.Proofs.Ytmemgiekkedeoaa
set_option maxRecDepth 100000
open Go.RowKit
set_option linter.unusedVariables false
set_option linter.unusedSimpArgs false

set_option maxRecDepth 100000 in
set_option maxHeartbeats 2000000 in
theorem entropyNobody_walk (a0 : Int) (A1 : Option Addr) (n1 c1 : Nat) (l1 : List UInt8) (w : World) (w0 : (Lit.int .i64 a0).wf = true) (s1 : InBytes w A1 n1 c1 l1) :
    Calls Try.prog 6 #[.int .i64 a0, .slice A1 n1 c1] w fun e w' => e = .returned (.bool true) ∧ Below w.heap.size w w' := by
  obtain ⟨i0, hi, hz0, hz1, hz2⟩ := info_parts u8_info
  have hr := s1.room
  have hcp := s1.cap
  have hsl := s1.sl
  have hnn := s1.none_
  clear s1 w0
  have own3 := World.ownsRow_lit (base := w.heap.size) (e := 5) (size := 1) w #[] 0 (Nat.le_refl _) (by decide) rfl
  have hsl3 := hsl.nx ((Below.refl _ w).alloc (Nat.le_refl _) (.cells #[] 5))
  have tail : ∀ (E : Int), E = (if a0 < 0 ∨ 4096 < a0 then 1 else 9 : Int) → (a0 < 0 ∨ (¬ a0 < 0 ∧ 4096 < a0) ∨ (¬ a0 < 0 ∧ ¬ 4096 < a0)) → Calls Try.prog 6 #[.int .i64 a0, .slice A1 n1 c1] w fun e w' => e = .returned (.bool true) ∧ Below w.heap.size w w' := by
    intro E hE hc
    have hE' : (a0 < 0 ∨ (¬ a0 < 0 ∧ 4096 < a0)) ∧ E = 1 ∨ (¬ a0 < 0 ∧ ¬ 4096 < a0) ∧ E = 9 := by
      rcases hc with h | h | h
      · exact .inl ⟨.inl h, by rw [hE, if_pos (.inl h)]⟩
      · exact .inl ⟨.inr h, by rw [hE, if_pos (.inr h.2)]⟩
      · exact .inr ⟨h, by rw [hE, if_neg (by omega)]⟩
    have HE := Lib.hid hE
    clear hE hc
    rcases hE' with ⟨h | ⟨h, h2⟩, rfl⟩ | ⟨⟨h, h2⟩, rfl⟩
    all_goals
      go_enter Try.func6, Try.ntmps6
      go_wp2_with (at_builtin; refine wpList_append_sl _ rfl _ _ 22 rfl w.heap.size 5 i0 (.int .u8 0) 1 Try.underlying22 hi hz0 hz1 hz2 rfl _ 0 [] rfl own3 _ A1 n1 c1 (cb l1) rfl hsl3 hnn (cb_one _) (by unfold maxLen; omega) (by omega) (by simp) ?_; intro v4 w4 own4 gr4 at4; obtain ⟨X, cx, rfl⟩ := own_form own4)
      have hb4 : Below w.heap.size w w4 := below_app ((Below.refl w.heap.size w).alloc (Nat.le_refl _) _) (Nat.le_refl _) own3 gr4
      clear own4 gr4 at4
      refine (nmore_any w4 X _ cx).mono ?_
      rintro e w5 ⟨rfl, rfl⟩
      go_wp2_with fail
      refine (ndraw_any a0 w4).mono ?_
      rintro e w5 ⟨rfl, rfl⟩
      rw [← HE.out]
      go_wp2_with (first
        | (go_at_call 11; refine (nleft_any w4).mono ?_; rintro e w5 ⟨rfl, rfl⟩)
        | (go_at_call 12; refine (ndrawn_any w4).mono ?_; rintro e w5 ⟨rfl, rfl⟩)
        | (go_at_call 15; refine (ncopy_any w4).mono ?_; rintro e w5 ⟨rfl, rfl⟩)
        | (go_at_call 8; refine (awake8_any w4).mono ?_; rintro e w6 ⟨rfl, hb6⟩))
      go_ret
      exact ⟨rfl, next hb4 hb6⟩
  exact tail _ rfl (by omega)

end Go.Proofs.Ytmemgiekkedeoaa
