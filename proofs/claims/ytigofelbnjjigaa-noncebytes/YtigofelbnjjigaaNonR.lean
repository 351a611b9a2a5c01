/- Layer 10, the document's nonce: Of, Read, Take. -/
import Derived.Test.YtigofelbnjjigaaNonA
namespace Go.Proofs.Ytigofelbnjjigaa
set_option maxRecDepth 100000
open Go Go.RowKit
set_option linter.unusedVariables false
set_option linter.unusedSimpArgs false

set_option maxHeartbeats 1000000 in
theorem rnof_any (e l : Int) (w : World) : Calls Try.prog 15 #[.int .i64 e, .int .i64 l] w (RetFill 5 w (nbL e l) (nbE e l)) := by
  obtain ⟨i0, hi, hz0, hz1, hz2⟩ := info_parts u8_info
  have hcall := rnright_any e l w
  by_cases hok : cnok e l = true
  · obtain ⟨h0, h1, h2, h3⟩ := (cnok_iff e l).1 hok
    have HE : nbE e l = 0 := by unfold nbE; rw [if_pos hok]
    obtain ⟨en, rfl⟩ : ∃ en : Nat, e = en := ⟨e.toNat, by omega⟩
    obtain ⟨ln, rfl⟩ : ∃ ln : Nat, l = ln := ⟨l.toNat, by omega⟩
    have HL : Hid (nbL en ln = stored en false ++ told8 ln) := by unfold Hid nbL; rw [if_pos hok]; rfl
    rw [HE]
    rw [hok] at hcall
    obtain ⟨R, hR⟩ : ∃ R, R = nbL en ln := ⟨_, rfl⟩
    rw [← hR] at HL ⊢
    obtain ⟨S1, hS1⟩ : ∃ x, x = stored en false := ⟨_, rfl⟩
    obtain ⟨S2, hS2⟩ : ∃ x, x = told8 ln := ⟨_, rfl⟩
    have e1 : (le en 4).reverse = S1 := by rw [hS1]; unfold stored; simp
    have e2 : (le ln 8).reverse = S2 := by rw [hS2]; rfl
    rw [← hS1, ← hS2] at HL
    have HE1 := Lib.hid e1
    have HE2 := Lib.hid e2
    have HS1L : Hid (S1.length = 4) := by unfold Hid; rw [hS1, stored_len]
    have HS2L : Hid (S2.length = 8) := by unfold Hid; rw [hS2, told8_len]
    have hwe : IntKind.u64.wrap (en : Int) = (en : Int) := by simp only [IntKind.wrap_u64]; omega
    have hwl : IntKind.u64.wrap (ln : Int) = (ln : Int) := by simp only [IntKind.wrap_u64]; omega
    have HC := Lib.hid hcall
    have HEN : Hid (en < 18446744073709551616) := by unfold Hid; omega
    have HLN : Hid (ln < 18446744073709551616) := by unfold Hid; omega
    clear hok h0 h1 h2 h3 hcall HE hR hS1 hS2 e1 e2
    go_enter Try.func15, Try.ntmps15
    go_wp2_with (first
      | (go_at_call 11; refine HC.out.mono ?_; rintro r w1 ⟨rfl, rfl⟩)
      | fail)
    refine (told_any en 4 _ HEN.out (by omega)).mono ?_
    rintro r w1 ⟨A1, c1, rfl, n1⟩
    rw [HE1.out] at n1
    go_wp2_with fail
    refine (told_any ln 8 _ HLN.out (by omega)).mono ?_
    rintro r w2 ⟨A2, c2, rfl, n2⟩
    rw [HE2.out] at n2
    have hown := own_below n1.own n2.below
    have hb2 := next n1.below n2.below
    go_wp2_with (at_builtin; refine wpList_append_sl _ rfl _ _ 30 rfl w.heap.size 5 i0 (.int .u8 0) 1 Try.underlying30 hi hz0 hz1 hz2 rfl _ 4 _ rfl hown _ A2 8 c2 (cb S2) rfl n2.sl n2.none_ (cb_one _) (by unfold maxLen; omega) (by omega) hb2.size ?_; intro v3 w3 hown3 hgrow3 hat3)
    have hb3 := below_app hb2 (Nat.le_refl _) hown hgrow3
    rw [← cb_append, ← HL.out] at hown3
    have HO := Lib.hid hown3
    clear hown3 hgrow3 hat3 hown n1 n2
    go_wp2
    go_ret2
    exact retFill rfl rfl HO.out hb3
  · rw [Bool.not_eq_true] at hok
    have HE : nbE e l = 1 := by unfold nbE; rw [if_neg (by rw [hok]; simp)]
    have HL : nbL e l = [] := by unfold nbL; rw [if_neg (by rw [hok]; simp)]
    rw [HE, HL]
    rw [hok] at hcall
    have HC := Lib.hid hcall
    clear hok hcall HE HL
    go_enter Try.func15, Try.ntmps15
    go_wp2_with (go_at_call 11; refine HC.out.mono ?_; rintro r w1 ⟨rfl, rfl⟩)
    go_ret2
    exact ⟨none, 0, 0, rfl, World.ownsRow_nil _ _ _ _, Below.refl _ _⟩

set_option maxHeartbeats 1000000 in
theorem rnread_any (b : List UInt8) (w : World) (A : Option Addr) (n c : Nat) (h : Sl w w.heap.size A n (cb b)) (hc : n ≤ c) (hA : A = none → c = 0) (hm : n ≤ maxLen) :
    Calls Try.prog 17 #[.slice A n c] w fun r w' => r = .returned (.tuple #[.int .i64 (rdP b : Nat), .int .i64 (rdN b : Nat), .int .i64 (rdE b)]) ∧ Below w.heap.size w w' := by
  have hn : n = b.length := by rw [← h.1, cb_len]
  by_cases h12 : n = 12
  · subst h12
    have e1 : rdP b = if rdB b = true then val (b.take 4) else 0 := rfl
    have e2 : rdN b = if rdB b = true then val (b.drop 4) else 0 := rfl
    have e3 : rdE b = if rdB b = true then 0 else 5 := rfl
    have hB := rdB_iff b
    have v4 := val_lt (b.take 4)
    have l4 : (b.take 4).length = 4 := by rw [List.length_take]; omega
    have l8 : (b.drop 4).length = 8 := by rw [List.length_drop]; omega
    rw [l4] at v4
    have hL : loadV (b.take 4) false = val (b.take 4) ∧ loadE (b.take 4) = 0 := by unfold loadV loadE; rw [if_pos l4, if_pos l4]; exact ⟨by simp, rfl⟩
    have hG : longV (b.drop 4) = val (b.drop 4) ∧ longE (b.drop 4) = 0 := by unfold longV longE; rw [if_pos l8, if_pos l8]; exact ⟨rfl, rfl⟩
    have v8 := val_lt (b.drop 4)
    rw [l8] at v8
    obtain ⟨x, hx⟩ : ∃ x, x = val (b.take 4) := ⟨_, rfl⟩
    obtain ⟨y, hy⟩ : ∃ y, y = val (b.drop 4) := ⟨_, rfl⟩
    obtain ⟨P, hP⟩ : ∃ P, P = rdP b := ⟨_, rfl⟩
    obtain ⟨N, hN⟩ : ∃ N, N = rdN b := ⟨_, rfl⟩
    obtain ⟨E, hE⟩ : ∃ E, E = rdE b := ⟨_, rfl⟩
    rw [← hP] at e1
    rw [← hN] at e2
    rw [← hE] at e3
    rw [← hP, ← hN, ← hE]
    rw [← hx] at e1 v4 hL hB
    rw [← hy] at e2 hG v8 hB
    have s4 := sl_take (h := 4) h (by omega)
    rw [show (cb b).take 4 = cb (b.take 4) by simp [cb]] at s4
    have s8 := sl_cut (k := 4) h (by omega) hc
    rw [show (cb b).drop 4 = cb (b.drop 4) by simp [cb]] at s8
    have HE1 := Lib.hid e1
    have HE2 := Lib.hid e2
    have HE3 := Lib.hid e3
    have HL := Lib.hid hL
    have HG := Lib.hid hG
    have hq : (((12 : Nat) : Int) != 12) = false := by decide
    have hcase : (64 < x ∧ rdB b = false) ∨ (x ≤ 64 ∧ 1099511627776 < y ∧ rdB b = false) ∨ (x ≤ 64 ∧ y ≤ 1099511627776 ∧ rdB b = true) := by
      rcases hb : rdB b with _ | _ <;> simp [hb] at hB ⊢ <;> omega
    have hxx : x < 4294967296 := by simpa using v4
    have hyy : y < 18446744073709551616 := by simpa using v8
    clear hn e1 e2 e3 hL hG l4 l8 hx hy hP hN hE h hB v4 v8
    obtain ⟨T, hT⟩ : ∃ T, T = rdB b := ⟨_, rfl⟩
    rw [← hT] at HE1 HE2 HE3 hcase
    clear hT
    go_enter Try.func17, Try.ntmps17
    rcases hcase with ⟨q1, rfl⟩ | ⟨q1, q2, rfl⟩ | ⟨q1, q2, rfl⟩
    all_goals
     go_wp2_with (first
      | (refine wpList_slice_h rfl 30 _ _ rfl 5 Try.underlying30 u8_size A 12 c 4 .i64 _ rfl rfl rfl (by omega) ?_)
      | (go_at_call 22; refine (rload_any (b.take 4) false w w.heap.size A 4 c s4 (by omega) (Nat.le_refl _)).mono ?_; rintro r w1 ⟨rfl, hd1⟩; rw [HL.out.1, HL.out.2])
      | (refine wpList_slice_from rfl 30 _ _ rfl 5 Try.underlying30 u8_size A 12 c 4 .i64 _ rfl rfl rfl (by omega) hc hA ?_; intro A2 HA2)
      | (go_at_call 23; refine (rlong_any (b.drop 4) w1 w.heap.size A2 8 (c - 4) (by rw [HA2.out]; exact s8.below hd1) (by omega)).mono ?_; rintro r w2 ⟨rfl, rfl⟩; rw [HG.out.1, HG.out.2])
      | fail)
     go_ret3
     have e1 := HE1.out
     have e2 := HE2.out
     have e3 := HE3.out
     first
       | (rw [if_neg (by simp)] at e1 e2 e3; subst e1; subst e2; subst e3; exact ⟨rfl, hd1⟩)
       | (rw [if_pos rfl] at e1 e2 e3; subst e1; subst e2; subst e3; exact ⟨rfl, hd1⟩)
       | (rw [if_pos trivial] at e1 e2 e3; subst e1; subst e2; subst e3; exact ⟨rfl, hd1⟩)
  · have hb : rdB b = false := by unfold rdB; rw [decide_eq_false (by omega)]; rfl
    have e1 : rdP b = 0 := by unfold rdP; rw [hb]; rfl
    have e2 : rdN b = 0 := by unfold rdN; rw [hb]; rfl
    have e3 : rdE b = 5 := by unfold rdE; rw [hb]; rfl
    rw [e1, e2, e3]
    have hq : ((n : Int) != 12) = true := by simp; omega
    clear hb e1 e2 e3 hn h12 h
    go_enter Try.func17, Try.ntmps17
    go_wp2
    go_ret3
    exact ⟨rfl, Below.refl _ _⟩

end Go.Proofs.Ytigofelbnjjigaa
