/- Package cutter: Push. -/
import Derived.Test.YtkopdkamhkmefaaCutN
namespace Go.Proofs.Ytkopdkamhkmefaa
set_option maxRecDepth 100000
open Go Go.RowKit
set_option linter.unusedVariables false
set_option linter.unusedSimpArgs false

theorem NoEnd.few {p d k mn mx : Nat} {o : List UInt8} (h : NoEnd p d k mn mx o) (h1 : 1 ≤ mx) : o.length < mx := by
  rcases Nat.lt_or_ge o.length mx with h2 | h2
  · exact h2
  · have := h mx h1 h2
    unfold cutP at this
    simp at this
/-- Where a chunk ends, as Push finds it. -/
theorem endB_no {p d k mn mx : Nat} {o : List UInt8} (h1 : o.length < mx) (h2 : o.length < mn ∨ fpr p d o &&& k ≠ k) : endB p d k mn mx o = false := by
  rw [endB_eq]
  have h3 : decide (o.length = mx) = false := decide_eq_false (by omega)
  rw [h3, Bool.false_or]
  rcases h2 with h2 | h2
  · rw [decide_eq_false (by omega : ¬ mn ≤ o.length), Bool.false_and]
  · rw [allB, decide_eq_false h2, Bool.and_false]
theorem endB_yes {p d k mn mx : Nat} {o : List UInt8} (h1 : o.length ≤ mx) (h2 : o.length = mx ∨ (mn ≤ o.length ∧ fpr p d o &&& k = k)) : endB p d k mn mx o = true := by
  rw [endB_eq]
  rcases h2 with h2 | ⟨h2, h3⟩
  · rw [decide_eq_true h2, Bool.true_or]
  · rw [allB, decide_eq_true h2, decide_eq_true h3, Bool.and_true, Bool.or_true]

/-- Whether the open chunk ends, of n bytes with the fingerprint V. -/
def endsB (k mn mx n V : Nat) : Bool := decide (mx ≤ n) || (decide (mn ≤ n) && decide (V &&& k = k))
theorem endsB_eq {p d k mn mx : Nat} {o : List UInt8} (h : o.length ≤ mx) : endsB k mn mx o.length (fpr p d o) = endB p d k mn mx o := by
  rw [endB_eq, endsB, allB]
  congr 1
  exact decide_eq_decide.2 (by omega)

set_option maxRecDepth 100000 in
set_option maxHeartbeats 4000000 in
theorem cends_any (g p d k mn mx n v V : Nat) (x : List UInt8) (w : World) (hx : x.length = 16) (hb : Bl w g (ckc p k mn mx d x v n) 58) (hV : V < 18446744073709551616) (hk : k < 18446744073709551616) :
    Calls Try.prog 29 #[.pointer (some ⟨g, 0, none⟩), .int .u64 (V : Int)] w fun e w' => e = .returned (.bool (endsB k mn mx n V)) ∧ Below w.heap.size w w' := by
  have c5 : w.cell? ⟨g, 23, none⟩ = some (.int .i64 (n : Int)) := by rw [hb.cell, ckc_o hx]
  have c3 : w.cell? ⟨g, 3, none⟩ = some (.int .i64 (mx : Int)) := by rw [hb.cell, ckc_3]
  have c2 : w.cell? ⟨g, 2, none⟩ = some (.int .i64 (mn : Int)) := by rw [hb.cell, ckc_2]
  have c1 : w.cell? ⟨g, 1, none⟩ = some (.int .u64 (k : Int)) := by rw [hb.cell, ckc_1]
  obtain ⟨a, ha⟩ : ∃ a, a = V &&& k := ⟨_, rfl⟩
  have eA : bits BinOp.and IntKind.u64 (V : Int) (k : Int) = (a : Int) := by rw [ha]; exact u64_and_nat V k hV hk
  have HE : Hid (endsB k mn mx n V = (decide (mx ≤ n) || (decide (mn ≤ n) && decide (a = k)))) := by unfold Hid; rw [ha]; rfl
  clear ha hb
  rw [HE.out]
  go_enter Try.func29, Try.ntmps29
  go_upto_region 1 with fail
  by_cases q1 : mx ≤ n
  · have p1 : ¬ (n : Int) < (mx : Int) := by omega
    go_quiet (fail)
    go_wp2
    go_ret
    exact ⟨ret_bool (by simp [q1]), Drew.below ⟨nq, rfl⟩ _⟩
  · have p1 : (n : Int) < (mx : Int) := by omega
    by_cases q2 : mn ≤ n
    · have p2 : ¬ (n : Int) < (mn : Int) := by omega
      by_cases q3 : a = k
      · have p3 : ((a : Int) == (k : Int)) = true := by simp; omega
        go_quiet (fail)
        go_wp2
        go_ret
        exact ⟨ret_bool (by simp [q1, q2, q3]), Drew.below ⟨nq, rfl⟩ _⟩
      · have p3 : ((a : Int) == (k : Int)) = false := by simp; omega
        go_quiet (fail)
        go_wp2
        go_ret
        exact ⟨ret_bool (by simp [q1, q2, q3]), Drew.below ⟨nq, rfl⟩ _⟩
    · have p2 : (n : Int) < (mn : Int) := by omega
      go_quiet (fail)
      go_wp2
      go_ret
      exact ⟨ret_bool (by simp [q1, q2]), Drew.below ⟨nq, rfl⟩ _⟩

/-- What Push does. -/
def CkPost (w : World) (own : List Nat) (g p d k mn mx : Nat) (o : List UInt8) (b : UInt8) (e : Ending) (w' : World) : Prop := e = .returned (.bool (endB p d k mn mx (o ++ [b]))) ∧ Ck w' own g p d k mn mx (if endB p d k mn mx (o ++ [b]) = true then [] else o ++ [b]) ∧ Turns own w w' /- 58 -/
theorem ckPost_no {w w' : World} {g p d k mn mx : Nat} {o : List UInt8} {b : UInt8} (he : endB p d k mn mx (o ++ [b]) = false) (hb : Bl w' g (ckc p k mn mx d (winW (o ++ [b])) (fpr p d (o ++ [b])) (o ++ [b]).length) 58) (hd : Deg p d) (h53 : d ≤ 53) (hno : NoEnd p d k mn mx o) (h1 : 1 ≤ mx) (h2 : mx ≤ 4096) (h3 : mn ≤ mx) (h4 : k < 18446744073709551616) (ht : Turns [g] w w') :
    CkPost w [g] g p d k mn mx o b (.returned (.bool false)) w' := by
  refine ⟨by rw [he], ?_, ht⟩
  rw [he, if_neg (by decide)]
  exact ⟨⟨rfl, hb⟩, hd, h53, hno.push b he, h1, h2, h3, h4⟩
theorem ckPost_yes {w w' : World} {g p d k mn mx : Nat} {o : List UInt8} {b : UInt8} (he : endB p d k mn mx (o ++ [b]) = true) (hb : Bl w' g (ckc p k mn mx d (winW []) (fpr p d []) 0) 58) (hd : Deg p d) (h53 : d ≤ 53) (h1 : 1 ≤ mx) (h2 : mx ≤ 4096) (h3 : mn ≤ mx) (h4 : k < 18446744073709551616) (ht : Turns [g] w w') :
    CkPost w [g] g p d k mn mx o b (.returned (.bool true)) w' := by
  refine ⟨by rw [he], ?_, ht⟩
  rw [he, if_pos rfl]
  exact ⟨⟨rfl, hb⟩, hd, h53, NoEnd.nil, h1, h2, h3, h4⟩

set_option maxRecDepth 100000 in
set_option maxHeartbeats 4000000 in
theorem cpush_any (g p d k mn mx : Nat) (own : List Nat) (o : List UInt8) (b : UInt8) (w : World) (h : Ck w own g p d k mn mx o) (ho : o.length ≤ 1000000) :
    Calls Try.prog 18 #[.pointer (some ⟨g, 0, none⟩), .int .u8 (b.toNat : Int)] w (CkPost w own g p d k mn mx o b) := by
  obtain ⟨⟨rfl, hbl⟩, hd, h53, hno, h1, h2, h3, h4⟩ := h
  have hfew := hno.few h1
  have HNO := Lib.hid hno
  have HD := Lib.hid hd
  obtain ⟨O, hO⟩ : ∃ O, O = o ++ [b] := ⟨_, rfl⟩
  have hOl : O.length = o.length + 1 := by rw [hO]; simp
  obtain ⟨n, hn⟩ : ∃ n, n = o.length := ⟨_, rfl⟩
  rw [← hn] at hbl hfew hOl ho
  have HOO := Lib.hid hO
  have HOL := Lib.hid hOl
  have c5 : w.cell? ⟨g, 23, none⟩ = some (.int .i64 (n : Int)) := by rw [hbl.cell, ckc_o (winW_len o)]
  have f5 := hbl.frozen 23
  have HBL := Lib.hid hbl
  obtain ⟨V, hV⟩ : ∃ V, V = fpr p d O := ⟨_, rfl⟩
  have hVl : V < 18446744073709551616 := by rw [hV]; exact fpr_lt64 hd h53 _
  have HV := Lib.hid hV
  have HEQ : Hid (endsB k mn mx (n + 1) V = endB p d k mn mx O) := by
    unfold Hid
    rw [hV, ← hOl]
    exact endsB_eq (by omega)
  clear hno hn hO hOl hV hbl hd
  go_enter Try.func18, Try.ntmps18
  go_upto_region 4 with fail
  have en : ((n + 1 : Nat) : Int) = (n : Int) + 1 := by omega
  obtain ⟨W1, hW1⟩ : ∃ W1, W1 = w.setCell ⟨g, 23, none⟩ (.int .i64 ((n : Int) + 1)) := ⟨_, rfl⟩
  have b1 : Bl W1 g (ckc p k mn mx d (winW o) (fpr p d o) (n + 1)) 58 := by
    have h5 := HBL.out.set 23 (.int .i64 ((n + 1 : Nat) : Int))
    rw [ckc_seto (winW_len o), en, ← hW1] at h5
    exact h5
  have g1 : w.grownBy W1 (some g) := by rw [hW1]; exact but_setCell (but_refl _ _) 23 _
  rw [← hW1]
  clear hW1 c5 f5
  have B1 := Lib.hid b1
  have G1 := Lib.hid g1
  clear b1 g1
  go_wp2_with fail
  refine (rolpush_in g p k mn mx d (n + 1) o b W1 B1.out HD.out h53).mono ?_
  rintro e W2 ⟨rfl, b2, g2⟩
  rw [← HOO.out] at b2 ⊢
  rw [← HV.out] at b2 ⊢
  have B2 := Lib.hid b2
  have G2 := Lib.hid (but_trans G1.out g2)
  clear G1 B1 b2 g2
  go_wp2_with fail
  refine (cends_any g p d k mn mx (n + 1) V V (winW O) W2 (winW_len O) B2.out hVl h4).mono ?_
  rintro e W3 ⟨rfl, hb3⟩
  rw [HEQ.out]
  have b3 := B2.out.next hb3
  have t3 : Turns [g] w W3 := (Turns.of_but G2.out (List.mem_cons_self ..)).trans (Turns.of_below hb3)
  have T3 := Lib.hid t3
  have B3 := Lib.hid b3
  clear hb3 t3 b3 B2 G2
  obtain ⟨E, hE⟩ : ∃ E, E = endB p d k mn mx O := ⟨_, rfl⟩
  rw [← hE]
  have HE := Lib.hid hE
  clear hE
  cases E with
  | false =>
    go_wp2
    go_ret
    have b3 := B3.out
    have hq := HE.out.symm
    rw [HV.out, ← HOL.out, HOO.out] at b3
    rw [HOO.out] at hq
    exact ckPost_no hq b3 HD.out h53 HNO.out h1 h2 h3 h4 T3.out
  | true =>
    have f5 := B3.out.frozen 23
    have c5 : W3.cell? ⟨g, 23, none⟩ = some (.int .i64 ((n + 1 : Nat) : Int)) := by rw [B3.out.cell, ckc_o (winW_len O)]
    go_wp2_with fail
    obtain ⟨W4, hW4⟩ : ∃ W4, W4 = W3.setCell ⟨g, 23, none⟩ (.int .i64 0) := ⟨_, rfl⟩
    have b4 : Bl W4 g (ckc p k mn mx d (winW O) (fpr p d O) 0) 58 := by
      have h5 := B3.out.set 23 (.int .i64 ((0 : Nat) : Int))
      rw [ckc_seto (winW_len O), HV.out] at h5
      rw [hW4]
      exact h5
    have t4 : Turns [g] w W4 := T3.out.trans (Turns.of_but (by rw [hW4]; exact but_setCell (but_refl _ _) 23 _) (List.mem_cons_self ..))
    rw [← hW4]
    clear hW4 c5 f5
    refine (rolreset_in g p k mn mx d 0 O W4 b4).mono ?_
    rintro e W5 ⟨rfl, b5, g5⟩
    have t5 := t4.trans (Turns.of_but g5 (List.mem_cons_self ..))
    have B5 := Lib.hid b5
    have T5 := Lib.hid t5
    clear b4 t4 g5 b5 t5
    go_wp2
    go_ret
    have hq := HE.out.symm
    rw [HOO.out] at hq
    exact ckPost_yes hq B5.out HD.out h53 h1 h2 h3 h4 T5.out

end Go.Proofs.Ytkopdkamhkmefaa
