/- Layer 11, keyfile: slices.Clone of bytes; isLength, areRight, Right. -/
import Derived.Test.YtlnoopmblmkgkaaGreatDoorKefF
import Derived.Test.YtlnoopmblmkgkaaGreatDoorLB
namespace Go.Proofs.YtlnoopmblmkgkaaGreatDoor
set_option maxRecDepth 100000
open Go Go.RowKit
set_option linter.unusedVariables false
set_option linter.unusedSimpArgs false

theorem clone_any (l : List UInt8) (w : World) (B : Nat) (A : Option Addr) (n c : Nat) (h : Sl w B A n (cb l)) (hc : n ≤ c) (hA : A = none → c = 0) (hm : n ≤ 140737488355328) (hB : B ≤ w.heap.size) :
    Calls Tryz.prog 37 #[.slice A n c] w (RetBytes 5 w n l) := by
  obtain ⟨i0, hi, hz0, hz1, hz2⟩ := info_parts u8_info
  cases A with
  | none =>
    obtain rfl := hA rfl
    obtain rfl : n = 0 := by omega
    have hl : l = [] := by have := h.1; rw [cb_len] at this; exact List.eq_nil_of_length_eq_zero this
    subst hl
    have he : ∀ w : World, (binOp .eql 22 (.slice none 0 0) (.slice none 0 0)).run Tryz.prog w = .ok (.bool true) w := fun _ => rfl
    go_enter Tryz.func37, Tryz.ntmps37
    go_wp2
    go_ret
    exact retBytes rfl rfl (World.ownsRow_nil _ _ _ _) (Below.refl _ _)
  | some ad =>
    have he : ∀ w : World, (binOp .eql 22 (.slice (some ad) n c) (.slice none 0 0)).run Tryz.prog w = .ok (.bool false) w := fun _ => rfl
    have h0 := World.ownsRow_lit (base := w.heap.size) (e := 5) (size := 1) w #[] 0 (Nat.le_refl _) (by decide) rfl
    go_enter Tryz.func37, Tryz.ntmps37
    go_wp2_with (at_builtin; refine wpList_append_sl _ rfl _ _ 22 rfl w.heap.size 5 i0 (.int .u8 0) 1 Tryz.underlying22 hi hz0 hz1 hz2 rfl _ 0 [] rfl h0 B (some ad) n c (cb l) rfl (h.alloc hB _) hA (cb_one l) (by unfold maxLen; omega) (by omega) (by simp) ?_; intro v' w1 hown' hgrow hat)
    have hb1 : Below w.heap.size w w1 := below_app ((Below.refl w.heap.size w).alloc (Nat.le_refl _) _) (Nat.le_refl _) h0 hgrow
    clear hgrow hat h0
    go_wp2
    go_ret
    exact retBytes (by omega) (by simp) hown' hb1

theorem islen_any (n : Nat) (w : World) (hn : n ≤ 9223372036854775807) :
    Calls Tryz.prog 82 #[.int .i64 (n : Int)] w fun e w' => e = .returned (.bool (boxn n)) ∧ w = w' := by
  obtain ⟨r, hr⟩ : ∃ r, r = boxn n := ⟨_, rfl⟩
  rw [← hr]
  have HR := Lib.hid hr
  clear hr
  by_cases h16 : n ≤ 16
  · have hq : ¬ ((n : Int) - 16 > 0) := by omega
    go_enter Tryz.func82, Tryz.ntmps82
    go_wp2_with (go_at_call 33; refine (bsizeN_any 0 w (by decide)).mono ?_; rintro e w1 ⟨rfl, rfl⟩)
    go_ret
    exact ⟨ret_bool (by rw [HR.out]; unfold boxn; rw [decide_eq_false (by omega)]; rfl), rfl⟩
  · obtain ⟨t, rfl⟩ : ∃ t, n = t + 16 := ⟨n - 16, by omega⟩
    have ht : 0 < t := by omega
    have HT : Hid (boxn ((t + 16 : Nat) : Int) = (decide (t % 33 = 0) && decide (t / 33 ≤ 64))) := by
      unfold Hid boxn
      rw [Bool.eq_iff_iff]
      simp only [Bool.and_eq_true, decide_eq_true_eq]
      omega
    rw [HT.out] at HR
    by_cases h33 : t % 33 = 0
    · have q1 : ((t : Int) % 33 == 0) = true := by simp; omega
      have H33 := Lib.hid h33
      clear h33
      by_cases h64 : t / 33 ≤ 64
      · have q2 : decide ((t : Int) / 33 ≤ 64) = true := by simp; omega
        have H64 := Lib.hid h64
        clear h64
        go_enter Tryz.func82, Tryz.ntmps82
        go_wp2_with (go_at_call 33; refine (bsizeN_any 0 w (by decide)).mono ?_; rintro e w1 ⟨rfl, rfl⟩)
        go_ret
        exact ⟨ret_bool (by rw [HR.out, decide_eq_true H33.out, decide_eq_true H64.out]; rfl), rfl⟩
      · have q2 : decide ((t : Int) / 33 ≤ 64) = false := by simp; omega
        have H64 := Lib.hid h64
        clear h64
        go_enter Tryz.func82, Tryz.ntmps82
        go_wp2_with (go_at_call 33; refine (bsizeN_any 0 w (by decide)).mono ?_; rintro e w1 ⟨rfl, rfl⟩)
        go_ret
        exact ⟨ret_bool (by rw [HR.out, decide_eq_false H64.out, Bool.and_false]), rfl⟩
    · have q1 : ((t : Int) % 33 == 0) = false := by simp; omega
      have H33 := Lib.hid h33
      clear h33
      go_enter Tryz.func82, Tryz.ntmps82
      go_wp2_with (go_at_call 33; refine (bsizeN_any 0 w (by decide)).mono ?_; rintro e w1 ⟨rfl, rfl⟩)
      go_ret
      exact ⟨ret_bool (by rw [HR.out, decide_eq_false H33.out]; rfl), rfl⟩

set_option maxHeartbeats 400000 in
theorem areright_any (r nu : Int) (n : Nat) (w : World) (hn : n ≤ 9223372036854775807) :
    Calls Tryz.prog 51 #[.int .i64 r, .int .i64 nu, .int .i64 (n : Int)] w fun e w' => e = .returned (.bool (kfit 16 r nu n)) ∧ w = w' := by
  have hcl := islen_any n w hn
  have hk : kfit 16 r nu n = (decide (1 ≤ r) && (decide (r ≤ 4096) && (decide (1 ≤ nu) && (decide (nu ≤ 1099511627776) && boxn n)))) := by
    unfold kfit
    cases boxn n <;> cases decide (1 ≤ r) <;> cases decide (r ≤ 4096) <;> cases decide (1 ≤ nu) <;> cases decide (nu ≤ 1099511627776) <;> rfl
  obtain ⟨R, hR⟩ : ∃ R, R = kfit 16 r nu n := ⟨_, rfl⟩
  rw [← hR] at hk ⊢
  obtain ⟨b, hb⟩ : ∃ b, b = boxn (n : Int) := ⟨_, rfl⟩
  rw [← hb] at hk hcl
  have HK := Lib.hid hk
  have HC := Lib.hid hcl
  clear hk hR hb hcl
  go_enter Tryz.func51, Tryz.ntmps51
  rcases (show ¬ 1 ≤ r ∨ (1 ≤ r ∧ ¬ r ≤ 4096) ∨ (1 ≤ r ∧ r ≤ 4096 ∧ ¬ 1 ≤ nu) ∨ (1 ≤ r ∧ r ≤ 4096 ∧ 1 ≤ nu ∧ ¬ nu ≤ 1099511627776) ∨ (1 ≤ r ∧ r ≤ 4096 ∧ 1 ≤ nu ∧ nu ≤ 1099511627776) by omega) with h1 | ⟨h1, h2⟩ | ⟨h1, h2, h3⟩ | ⟨h1, h2, h3, h4⟩ | ⟨h1, h2, h3, h4⟩
  all_goals
    go_wp2_with (go_at_call 82; refine HC.out.mono ?_; rintro e w1 ⟨rfl, rfl⟩)
    go_ret
    exact ⟨ret_bool (by rw [HK.out]; cases b <;> simp <;> omega), rfl⟩

set_option maxHeartbeats 1000000 in
/-- A file's own Right. -/
theorem fright_any (A : Option Addr) (n c : Nat) (r nu : Int) (B : Option Addr) (m d : Nat) (w : World) (hm : m ≤ 9223372036854775807) (hn : n ≤ 9223372036854775807) :
    Calls Tryz.prog 20 #[.agg (fC A n c r nu B m d).toArray] w fun e w' => e = .returned (.bool (kfit n r nu m)) ∧ Below w.heap.size w w' := by
  obtain ⟨W, HW, b0, hb0, hsz⟩ := put_f w (fC A n c r nu B m d) 35
  obtain ⟨q0, q1, q2, q3⟩ := f_cells b0
  by_cases h16 : n = 16
  · subst h16
    have hcl := areright_any r nu m W hm
    have hq : (((16 : Nat) : Int) == 16) = true := by decide
    have HC := Lib.hid hcl
    clear hsz b0 hcl
    go_enter Tryz.func20, Tryz.ntmps20
    go_wp2_with (first
      | (refine wpList_box_agg rfl 35 _ rfl (fC A 16 c r nu B m d) rfl ?_; rw [HW.out])
      | (go_at_call 51; refine HC.out.mono ?_; rintro e w1 ⟨rfl, rfl⟩))
    go_ret
    exact ⟨rfl, hb0⟩
  · have hk : kfit n r nu m = false := by
      rw [← Bool.not_eq_true, kfit_iff]
      intro h
      exact h16 (by omega)
    rw [hk]
    have hq : ((n : Int) == 16) = false := by simp; omega
    clear hsz b0 hk h16
    go_enter Tryz.func20, Tryz.ntmps20
    go_wp2_with (first
      | (refine wpList_box_agg rfl 35 _ rfl (fC A n c r nu B m d) rfl ?_; rw [HW.out]))
    go_ret
    exact ⟨rfl, hb0⟩

end Go.Proofs.YtlnoopmblmkgkaaGreatDoor
