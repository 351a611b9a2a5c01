/- The walk of the law SpanRows. -/
import Derived.Test.YtfmbehjllkmfiaaSpaV
namespace Go.Proofs.Ytfmbehjllkmfiaa
set_option maxRecDepth 100000
open Go Go.RowKit
set_option linter.unusedVariables false
set_option linter.unusedSimpArgs false

theorem int_inf15 : (Try.prog.info? 3).map (fun i => (i.zero, i.size, i.bytes)) = some (some (.int .i64 0), 1, 8) := by kernel_rfl
theorem size_rspan : (Try.prog.info? 34).map (·.size) = some 2 := by kernel_rfl

set_option maxRecDepth 100000 in
set_option maxHeartbeats 4000000 in
theorem spanRows_walk (a0 : Int) (A1 : Option Addr) (n1 c1 : Nat) (l1 : List Int) (w : World) (w0 : (Lit.int .i64 a0).wf = true) (s1 : InInts w A1 n1 c1 l1) :
    Calls Try.prog 3 #[.int .i64 a0, .slice A1 n1 c1] w fun e w' => e = .returned (.bool true) ∧ Below w.heap.size w w' := by
  have AW := Lib.hid awake15_any
  obtain ⟨i0, hi, hz0, hz1, hz2⟩ := info_parts int_inf15
  by_cases hbig : n1 ≤ 1000
  · have q1 : ¬ (1000 : Int) < (n1 : Int) := by omega
    obtain ⟨L, hL⟩ : ∃ L, L = rowL a0 l1 := ⟨_, rfl⟩
    obtain ⟨E, hE⟩ : ∃ E, E = rowE a0 l1 := ⟨_, rfl⟩
    have hok : ∀ x ∈ L, SpOk x := by rw [hL]; exact rowL_ok a0 l1
    have hLl : L.length ≤ 1000 := by have := rowL_len a0 l1; have := s1.len; rw [hL]; omega
    have HL := Lib.hid hL
    have HE := Lib.hid hE
    have HOK := Lib.hid hok
    have hsl := s1.sl
    have hz := s1.none_
    have hwf := s1.wf
    have own0 := World.ownsRow_lit (base := w.heap.size) (e := 3) (size := 1) w #[] 0 (Nat.le_refl _) (by decide) rfl
    clear hL hE hok s1
    go_enter Try.func3, Try.ntmps3
    go_wp2_with (first
      | (at_builtin; refine wpList_append_sl _ rfl _ _ 22 rfl w.heap.size 3 i0 (.int .i64 0) 8 Try.underlying22 hi hz0 hz1 hz2 rfl _ 0 [] rfl own0 _ A1 n1 c1 (iz l1) rfl (hsl.alloc (Nat.le_refl _) _) hz (iz_one l1) (by unfold maxLen; omega) (by omega) (by simp) ?_; intro v1 w1 own1 hgrow hat; obtain ⟨X1, d1, rfl⟩ := own_form own1; have hb1 : Below w.heap.size w w1 := below_app ((Below.refl w.heap.size w).alloc (Nat.le_refl _) _) (Nat.le_refl _) own0 hgrow; clear hgrow hat own0)
      | fail)
    rw [Nat.zero_add] at own1
    have x1 : Sl w1 w1.heap.size X1 n1 (iz l1) := Sl.own own1
    refine (srow_any a0 l1 w1 X1 n1 d1 x1 (by omega) hwf).mono ?_
    rw [← HL.out, ← HE.out]
    rintro e w2 ⟨X2, d2, rfl, y2, hb2⟩
    have hbw2 := next hb1 hb2
    have k2 := hsl.nx hbw2
    clear own1 x1 hb2 hb1
    go_wp2_with fail
    refine (rrow15_any a0 l1 w2 A1 n1 c1 k2 (by omega) hwf).mono ?_
    rw [← HL.out, ← HE.out]
    rintro e w3 ⟨X3, d3, rfl, z3, hb3⟩
    have y3 := y2.nx hb3
    have hbw3 := next hbw2 hb3
    have Y3 := Lib.hid y3
    have Z3 := Lib.hid z3
    have HB3 := Lib.hid hbw3
    clear y2 hb3 hbw2 k2 y3 z3 hbw3 hsl
    go_wp2
    go_loopw [40] (fun i wr => ∃ k : Nat, k ≤ L.length ∧ i = .int .i64 (k : Int) ∧ Below w3.heap.size w3 wr) (fun i _ => L.length - (intOf i).toNat)
    case atStart => exact ⟨0, Nat.zero_le _, rfl, Below.refl _ _⟩
    case round =>
      obtain ⟨k, hk, rfl, hb⟩ := hrel
      by_cases hlt : k < L.length
      · have k0 : (0 : Int) ≤ (k : Int) := by omega
        have k1 : (k : Int) < (L.length : Int) := by omega
        have y4 := (Y3.out.nx hb).nx (w' := wr.drew) ((Below.refl _ wr).drew)
        have z4 := (Z3.out.nx hb).nx (w' := wr.drew) ((Below.refl _ wr).drew)
        obtain ⟨ad, rfl, _, hc⟩ := y4.sl.2 (by omega)
        obtain ⟨bd, rfl, _, _⟩ := z4.2 (by omega)
        have hcx := hc k _ (cxs_at hlt)
        have hsp := spC_at L k hlt
        have hr := row_two z4 hsp.1 hsp.2
        obtain ⟨x, hx⟩ : ∃ x, x = L[k] := ⟨_, rfl⟩
        have hxo : SpOk x := by rw [hx]; exact HOK.out _ (List.getElem_mem hlt)
        rw [← hx] at hcx hr
        have HR := Lib.hid hr
        have HB := Lib.hid hb
        clear hc hsp hx hr y4 z4 hb
        go_wp2
        go_still_tail 8, (by kernel_rfl)
        repeat (first
          | (refine wpStill_load_at rfl 34 _ rfl (bd.add (k * 2)) rfl [.int .i64 (x.1 : Int), .int .i64 (x.2 : Int)] _ HR.out Try.underlying34 rfl size_rspan ?_)
          | still_step)
        refine wpStill_nil ?_
        clear hcx
        go_wp2_with fail
        refine (ris15_any x.1 x.2 wr.drew hxo.1 hxo.2).mono ?_
        rintro e w5 ⟨rfl, hb5⟩
        have HB5 := Lib.hid (next HB.out (((Below.refl _ wr).drew).trans hb5))
        clear hb5
        go_wp2
        go_roundw
        case rel => exact ⟨k + 1, by omega, by go_num, HB5.out⟩
        case measure => simp [intOf]; omega
      · have hkn : k = L.length := by omega
        have q2 : ¬ (k : Int) < (L.length : Int) := by omega
        have HB := Lib.hid (next HB3.out hb)
        clear hb hkn
        go_wp2_with (first
          | (go_at_call 5; refine (AW.out _).mono ?_; rintro e w10 ⟨rfl, hb10⟩)
          | fail)
        go_ret
        exact ⟨rfl, next HB.out hb10⟩
  · have q1 : (1000 : Int) < (n1 : Int) := by omega
    clear s1
    go_enter Try.func3, Try.ntmps3
    go_wp2_with (first
      | (go_at_call 5; refine (AW.out _).mono ?_; rintro e w10 ⟨rfl, hb10⟩)
      | fail)
    go_ret
    exact ⟨rfl, hb10⟩

end Go.Proofs.Ytfmbehjllkmfiaa
