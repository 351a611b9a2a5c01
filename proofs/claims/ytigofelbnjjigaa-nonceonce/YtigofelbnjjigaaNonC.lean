/- Layer 10, the document's nonce: Take. -/
import Derived.Test.YtigofelbnjjigaaNonB
import Derived.Test.YtigofelbnjjigaaNonR
namespace Go.Proofs.Ytigofelbnjjigaa
set_option maxRecDepth 100000
open Go Go.RowKit
set_option linter.unusedVariables false
set_option linter.unusedSimpArgs false

theorem rnof_ok (e l : Nat) (he : e ≤ 64) (hl : l ≤ 1099511627776) (L : Int) (hL : L = (l : Int)) (w : World) : Calls Try.prog 15 #[.int .i64 e, .int .i64 L] w fun r w' => ∃ A c, r = .returned (.tuple #[.slice A 12 c, .int .i64 0]) ∧ NewBytes 5 w 12 (nonceL e l) A c w' := by
  subst hL
  have h := rnof_any e l w
  have h1 : cnok e l = true := (cnok_iff _ _).2 (by omega)
  have e1 : nbL e l = nonceL e l := by unfold nbL; rw [if_pos h1]; simp
  have e2 : nbE e l = 0 := by unfold nbE; rw [if_pos h1]
  rw [e1, e2] at h
  refine h.mono ?_
  rintro r w' ⟨A, n, c, rfl, hn⟩
  have hl : n = 12 := by rw [← nonceL_len e l, ← cb_len]; exact hn.sl.1.symm
  subst hl
  exact ⟨A, c, rfl, hn⟩

/-- What the document's Take tells. -/
def rtakeN (e l n : Int) : Int := if takeE e l n = 0 then l + n else 0
def RTakePost (w : World) (e l n : Int) (r : Ending) (w' : World) : Prop := ∃ v, r = .returned (.tuple #[v, .int .i64 (rtakeN e l n), .int .i64 (takeE e l n)]) ∧ OwnParts 30 w' w.heap.size v (takeL e l n) ∧ Below w.heap.size w w' /- 23 -/
theorem rtakePost_no {w w' : World} {e l n : Int} {E : Int} (he : takeE e l n = E) (h0 : E ≠ 0) (hb : Below w.heap.size w w') : RTakePost w e l n (.returned (.tuple #[.slice none 0 0, .int .i64 0, .int .i64 E])) w' := by
  refine ⟨.slice none 0 0, ?_, ?_, hb⟩
  · unfold rtakeN; rw [he, if_neg h0]
  · unfold takeL; rw [he, if_neg h0]; exact ownParts_nil _ _ _

set_option maxHeartbeats 2000000 in
theorem rntake_any (e l n : Int) (w : World) : Calls Try.prog 9 #[.int .i64 e, .int .i64 l, .int .i64 n] w (RTakePost w e l n) := by
  obtain ⟨ok, hok⟩ : ∃ ok, ok = cnok e l := ⟨_, rfl⟩
  have hcall := rnright_any e l w
  rw [← hok] at hcall
  have HC := Lib.hid hcall
  have hE : takeE e l n = if ok = true ∧ 0 ≤ n ∧ n ≤ 4096 then (if 1099511627776 - l < n then 10 else 0) else 1 := by unfold takeE; rw [← hok]
  have hin : ok = true → 0 ≤ e ∧ e ≤ 64 ∧ 0 ≤ l ∧ l ≤ 1099511627776 := by rw [hok]; exact (cnok_iff e l).1
  have HE := Lib.hid hE
  have HIN := Lib.hid hin
  clear hok hcall hE hin
  rcases (show (ok = false ∨ (ok = true ∧ n < 0) ∨ (ok = true ∧ ¬ n < 0 ∧ 4096 < n)) ∨ (ok = true ∧ ¬ n < 0 ∧ ¬ 4096 < n) by rcases ok with _ | _ <;> simp <;> omega) with hbad | ⟨rfl, h1, h2⟩
  · have he : takeE e l n = 1 := by rw [HE.out, if_neg (by rcases hbad with rfl | ⟨rfl, h⟩ | ⟨rfl, h, h'⟩ <;> simp <;> omega)]
    have HP : Hid (∀ w', Below w.heap.size w w' → RTakePost w e l n (.returned (.tuple #[.slice none 0 0, .int .i64 0, .int .i64 1])) w') := fun w' hb => rtakePost_no he (by decide) hb
    clear he HE HIN
    go_enter Try.func9, Try.ntmps9
    rcases hbad with rfl | ⟨rfl, h1⟩ | ⟨rfl, h1, h2⟩
    all_goals
      go_wp2_with (go_at_call 11; refine HC.out.mono ?_; rintro r w1 ⟨rfl, rfl⟩)
      go_ret3
      exact HP.out _ (Below.refl _ _)
  · obtain ⟨i1, i2, i3, i4⟩ := HIN.out rfl
    by_cases hcap : 1099511627776 - l < n
    · have he : takeE e l n = 10 := by rw [HE.out, if_pos ⟨rfl, by omega, by omega⟩, if_pos hcap]
      have HP : Hid (∀ w', Below w.heap.size w w' → RTakePost w e l n (.returned (.tuple #[.slice none 0 0, .int .i64 0, .int .i64 10])) w') := fun w' hb => rtakePost_no he (by decide) hb
      have hcap2 : 1099511627776 < l + n := by omega
      clear he HE HIN
      go_enter Try.func9, Try.ntmps9
      go_wp2_with (go_at_call 11; refine HC.out.mono ?_; rintro r w1 ⟨rfl, rfl⟩)
      go_ret3
      exact HP.out _ (Below.refl _ _)
    · have he : takeE e l n = 0 := by rw [HE.out, if_pos ⟨rfl, by omega, by omega⟩, if_neg hcap]
      obtain ⟨en, rfl⟩ : ∃ en : Nat, e = en := ⟨e.toNat, by omega⟩
      obtain ⟨ln, rfl⟩ : ∃ ln : Nat, l = ln := ⟨l.toNat, by omega⟩
      obtain ⟨m, rfl⟩ : ∃ m : Nat, n = m := ⟨n.toNat, by omega⟩
      obtain ⟨j0, ji, jz0, jz1, jz2⟩ := info_parts bytes_info
      have HP : Hid (∀ v w', OwnParts 30 w' w.heap.size v (nls en ln m) → Below w.heap.size w w' → RTakePost w en ln m (.returned (.tuple #[v, .int .i64 ((ln : Int) + (m : Int)), .int .i64 0])) w') := by
        intro v w' ho hb
        refine ⟨v, ?_, ?_, hb⟩
        · unfold rtakeN; rw [he, if_pos rfl]
        · unfold takeL; rw [he, if_pos rfl]; simpa using ho
      have hcap2 : ¬ 1099511627776 < (ln : Int) + (m : Int) := by omega
      clear he HE HIN
      go_enter Try.func9, Try.ntmps9
      go_wp2_with (first
        | (go_at_call 11; refine HC.out.mono ?_; rintro r w1 ⟨rfl, rfl⟩)
        | fail)
      go_loopw [9, 10, 11, 12] (fun v i _ _ wr => ∃ k : Nat, k ≤ m ∧ i = .int .i64 ((k : Int) + 1) ∧ OwnParts 30 wr w.heap.size v (nls en ln k) ∧ Below w.heap.size w wr) (fun v _ _ _ _ => m - slLen v)
      case atStart => exact ⟨0, Nat.zero_le _, rfl, ownParts_nil _ _ _, Below.refl _ _⟩
      case round =>
        obtain ⟨k, hk, rfl, ho, hbk⟩ := hrel
        by_cases hlt : k < m
        · have hle : (k : Int) + 1 ≤ (m : Int) := by omega
          go_wp2_with fail
          refine (rnof_ok en (ln + (k + 1)) (by omega) (by omega) _ (by omega) wr).mono ?_
          rintro r w7 ⟨A7, c7, rfl, n7⟩
          obtain ⟨cs, hos⟩ := ho
          have hoff := hos.off_new (n := 12) (A := A7) (own_new (w' := w7) n7.own)
          have hbase : ∀ ad, A7 = some ad → w.heap.size ≤ ad.block := fun ad e => Nat.le_trans hbk.size (own_new (w' := w7) n7.own ad e)
          have hos7 := hos.next n7.below
          have hb7 := next hbk n7.below
          have hbl : Below w7.heap.size w7 (w7.alloc (.cells #[.slice A7 12 c7] 30)) := (Below.refl _ w7).alloc (Nat.le_refl _) _
          have hos8 := hos7.next hbl
          have s8 := n7.sl.nx hbl
          have hown := hos8.1
          rw [nls_len] at hown
          have hg7 : w.heap.size ≤ (w7.alloc (.cells #[.slice A7 12 c7] 30)).heap.size := (next hb7 hbl).size
          have HN := Lib.hid (nls_next en ln k)
          have HC7 := Lib.hid (own_cap n7.own)
          have HZ7 := Lib.hid n7.none_
          clear hos hos7 n7
          go_wp2_with (first
            | (at_builtin; refine wpList_append_own_at _ rfl _ _ 24 rfl w.heap.size 30 j0 (.slice none 0 0) 1 24 Try.underlying24 ji jz0 jz1 jz2 rfl (by decide) _ _ _ rfl hown ⟨w7.heap.size, 0, none⟩ 1 1 _ rfl rfl (cell_one_new _ _ _) (by simp [Value.oneCell']) (by unfold maxLen; omega) (by omega) hg7 ?_; intro v' w9 hown' hgrow hnil hat)
            | fail)
          have hop := hos8.push (l := nonceL en (ln + k + 1)) (nonceL_len _ _).symm s8 HC7.out HZ7.out hoff hbase (by rw [nls_len]; exact hown') hgrow hat
          rw [← HN.out] at hop
          have hb9 : Below w.heap.size w w9 := (next hb7 hbl).grown hgrow (next hb7 hbl).size (fun x hx => own_blk hown hx)
          obtain ⟨X1, Y1, e1⟩ := own_form hos8.1
          obtain ⟨X2, Y2, e2⟩ := hop.form
          rw [nls_len] at e1 e2
          have hms : m - slLen v' < m - slLen u9 := by rw [e1, e2]; simp only [slLen]; omega
          exact ⟨⟨k + 1, by omega, by simp, hop, hb9⟩, hms⟩
        · have hkm : k = m := by omega
          subst hkm
          go_wp2
          go_ret3
          exact HP.out _ _ ho hbk

end Go.Proofs.Ytigofelbnjjigaa
