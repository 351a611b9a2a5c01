/- Layer 9, label: purposes, epochs, keys and ids as lists of bytes; isPurpose, isEpoch. -/
import Derived.Test.YtkkpdeembndneaaDoorLN
import Derived.Test.YtkkpdeembndneaaDoorLM
import Derived.Test.YtkkpdeembndneaaDoorLG
import Derived.Test.YtkkpdeembndneaaDoorLV
import Derived.Laws.Strings
import Derived.WalkMore
namespace Go.Proofs.YtkkpdeembndneaaDoor
set_option maxRecDepth 100000
open Go.RowKit
set_option linter.unusedVariables false
set_option linter.unusedSimpArgs false

/-- A letter. -/
def lett (c : UInt8) : Bool := decide (97 ≤ c.toNat) && decide (c.toNat ≤ 122)
/-- Is it a purpose? -/
def purp (p : List UInt8) : Bool := decide (1 ≤ p.length) && (decide (p.length ≤ 16) && p.all lett)
/-- Is it an epoch? -/
def epo (e : Int) : Bool := decide (1 ≤ e) && decide (e ≤ 64)
/-- What is tagged for a purpose and an epoch. -/
def lmsg (p : List UInt8) (e : Int) : List UInt8 := p ++ (0 :: told8 e.toNat)
def lfit (k p : List UInt8) (e : Int) : Bool := decide (k.length = 32) && (purp p && epo e)
def lkeyR (k p : List UInt8) (e : Int) : List UInt8 := if lfit k p e = true then hmac k (lmsg p e) else []
def lkeyE (k p : List UInt8) (e : Int) : Int := if lfit k p e = true then 0 else 1
def ifit (k : List UInt8) (kind : Int) : Bool := decide (k.length = 32) && (decide (0 ≤ kind) && decide (kind ≤ 255))
def lidR (k : List UInt8) (kind : Int) (t : List UInt8) : List UInt8 := if ifit k kind = true then hmac k (UInt8.ofNat kind.toNat :: t) else List.replicate 32 0
def lidE (k : List UInt8) (kind : Int) : Int := if ifit k kind = true then 0 else 1
theorem lidR_len (k : List UInt8) (kind : Int) (t : List UInt8) : (lidR k kind t).length = 32 := by
  unfold lidR
  split
  · exact hmac_len _ _
  · simp
theorem lkeyR_len (k p : List UInt8) (e : Int) : (lkeyR k p e).length ≤ 32 := by
  unfold lkeyR
  split
  · rw [hmac_len]; omega
  · simp
theorem lmsg_len (p : List UInt8) (e : Int) : (lmsg p e).length = p.length + 9 := by unfold lmsg; simp [told8_len]

/-- The first k bytes are letters. -/
def letts (p : List UInt8) (k : Nat) : Prop := ∀ j (h : j < p.length), j < k → lett p[j] = true
theorem letts_zero (p : List UInt8) : letts p 0 := fun j h hj => absurd hj (by omega)
theorem letts_next {p : List UInt8} {k : Nat} (h : letts p k) (hk : k < p.length) (hl : lett p[k] = true) : letts p (k + 1) := by
  intro j hj hjk
  by_cases e : j = k
  · subst e; exact hl
  · exact h j hj (by omega)
theorem purp_of {p : List UInt8} (h : letts p p.length) (h1 : 1 ≤ p.length) (h16 : p.length ≤ 16) : purp p = true := by
  unfold purp
  simp only [Bool.and_eq_true, decide_eq_true_eq, List.all_eq_true]
  refine ⟨h1, h16, fun c hc => ?_⟩
  obtain ⟨j, hj, e⟩ := List.mem_iff_getElem.1 hc
  rw [← e]
  exact h j hj hj
theorem purp_no {p : List UInt8} {k : Nat} (hk : k < p.length) (hl : lett p[k] = false) : purp p = false := by
  unfold purp
  have : p.all lett = false := by
    rw [← Bool.not_eq_true]
    intro ha
    rw [List.all_eq_true] at ha
    rw [ha _ (List.getElem_mem hk)] at hl
    cases hl
  rw [this]; simp
theorem purp_long {p : List UInt8} (h : 16 < p.length) : purp p = false := by
  unfold purp
  rw [decide_eq_false (by omega : ¬ p.length ≤ 16)]; simp
theorem purp_none : purp [] = false := by decide
theorem lett_lo {c : UInt8} (h : (c.toNat : Int) < 97) : lett c = false := by
  unfold lett
  rw [decide_eq_false (by omega)]; rfl
theorem lett_hi {c : UInt8} (h : (122 : Int) < (c.toNat : Int)) : lett c = false := by
  unfold lett
  rw [decide_eq_false (by omega : ¬ c.toNat ≤ 122)]; simp
theorem lett_in {c : UInt8} (h : ¬ (c.toNat : Int) < 97) (h' : ¬ (122 : Int) < (c.toNat : Int)) : lett c = true := by
  unfold lett
  simp only [Bool.and_eq_true, decide_eq_true_eq]
  omega

/-- 's[i]' of a string. -/
theorem str_at (w : World) (p : List UInt8) (k : Nat) (h : k < p.length) : (Instr.index 9 (.string ⟨p.toArray⟩) (.int .i64 (k : Int))).run Tryd.prog w = .ok (.int .u8 (p[k].toNat : Int)) w := by
  rw [run_index_string w 9 ⟨p.toArray⟩ .i64 k Tryd.underlying9]
  rw [dif_pos ⟨by omega, by show (k : Int) < ((p.toArray.size : Nat) : Int); simp; omega⟩]
  rfl

set_option maxHeartbeats 1000000 in
theorem ispurp_any (p : List UInt8) (w : World) :
    Calls Tryd.prog 25 #[.string ⟨p.toArray⟩] w fun e w' => e = .returned (.bool (purp p)) ∧ w = w' := by
  obtain ⟨r, hr⟩ : ∃ r, r = purp p := ⟨_, rfl⟩
  rw [← hr]
  have HR := Lib.hid hr
  clear hr
  have hlen : (ByteArray.mk p.toArray).size = p.length := by show p.toArray.size = _; simp
  go_enter Tryd.func25, Tryd.ntmps25
  go_wp2
  go_step3
  go_wp2
  go_step3
  go_wp2
  rename_i KK hKK
  go_loopw [3] (fun i wr => ∃ k : Nat, k ≤ p.length ∧ k ≤ 16 ∧ i = .int .i64 k ∧ letts p k ∧ w = wr) (fun i _ => p.length - (intOf i).toNat)
  case atStart => exact ⟨0, by omega, by omega, rfl, letts_zero p, rfl⟩
  case round =>
    obtain ⟨k, hk, h16, rfl, hL, rfl⟩ := hrel
    by_cases hlt : k < p.length
    · have hi := str_at w p k hlt
      have hne : ((k : Int) == (p.length : Int)) = false := by simp; omega
      rcases Nat.lt_or_ge k 16 with h17 | h17
      · have h16' : ¬ (k : Int) = 16 := by omega
        by_cases hlo : (p[k].toNat : Int) < 97
        · have HB := Lib.hid (purp_no hlt (lett_lo hlo))
          go_wp2
          all_goals
            try simp only [Exit.noGoto_ret]
            go_ret
            exact ⟨ret_bool (by rw [HR.out, HB.out] <;> first | rfl | (simp; omega)), rfl⟩
        · by_cases hhi : (122 : Int) < (p[k].toNat : Int)
          · have HB := Lib.hid (purp_no hlt (lett_hi hhi))
            go_wp2
            all_goals
              try simp only [Exit.noGoto_ret]
              go_ret
              exact ⟨ret_bool (by rw [HR.out, HB.out] <;> first | rfl | (simp; omega)), rfl⟩
          · have hL2 := letts_next hL hlt (lett_in hlo hhi)
            go_wp2
            go_roundw
            case rel => exact ⟨k + 1, by omega, by omega, by simp, hL2, by trivial⟩
            case measure => simp [intOf]; omega
      · have h16' : (k : Int) = 16 := by omega
        have HB := Lib.hid (purp_long (p := p) (by omega))
        go_wp2
        all_goals
          try simp only [Exit.noGoto_ret]
          go_ret
          exact ⟨ret_bool (by rw [HR.out, HB.out] <;> first | rfl | (simp; omega)), rfl⟩
    · have hkl : k = p.length := by omega
      have HB : Hid (purp p = decide (0 < k)) := by
        unfold Hid
        rcases Nat.eq_zero_or_pos k with h0 | h0
        · rw [decide_eq_false (by omega)]; unfold purp; rw [decide_eq_false (by omega)]; rfl
        · rw [decide_eq_true h0]; rw [hkl] at hL; exact purp_of hL (by omega) (by omega)
      have hne : ((k : Int) == (p.length : Int)) = true := by simp; omega
      clear hkl
      rcases Nat.eq_zero_or_pos k with h0 | h0
      · have h0' : ¬ (0 : Int) < (k : Int) := by omega
        go_wp2
        all_goals
          try simp only [Exit.noGoto_ret]
          go_ret
          exact ⟨ret_bool (by rw [HR.out, HB.out]; simp <;> omega), rfl⟩
      · have h0' : (0 : Int) < (k : Int) := by omega
        go_wp2
        all_goals
          try simp only [Exit.noGoto_ret]
          go_ret
          exact ⟨ret_bool (by rw [HR.out, HB.out]; simp <;> omega), rfl⟩

theorem isepo_any (e : Int) (w : World) :
    Calls Tryd.prog 26 #[.int .i64 e] w fun r w' => r = .returned (.bool (epo e)) ∧ w = w' := by
  obtain ⟨r, hr⟩ : ∃ r, r = epo e := ⟨_, rfl⟩
  rw [← hr]
  have HR := Lib.hid hr
  clear hr
  go_enter Tryd.func26, Tryd.ntmps26
  by_cases h1 : 1 ≤ e
  · go_wp2
    go_ret
    refine ⟨ret_bool ?_, rfl⟩
    rw [HR.out]; unfold epo; rw [decide_eq_true h1]; simp
  · go_wp2
    go_ret
    refine ⟨ret_bool ?_, rfl⟩
    rw [HR.out]; unfold epo; rw [decide_eq_false (by omega)]; simp

end Go.Proofs.YtkkpdeembndneaaDoor
