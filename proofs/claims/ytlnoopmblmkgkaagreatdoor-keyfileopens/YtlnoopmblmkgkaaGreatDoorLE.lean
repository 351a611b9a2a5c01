/- A source of bytes in memory; where the bytes of a slice lie; structs loaded at any address. -/
import Derived.Test.YtlnoopmblmkgkaaGreatDoorLG
namespace Go.Proofs.YtlnoopmblmkgkaaGreatDoor
set_option maxRecDepth 100000
open Go.RowKit
set_option linter.unusedVariables false
set_option linter.unusedSimpArgs false

/-- What Draw tells: bytes, error, what is left. -/
def drawE (l : List UInt8) (N : Int) : Int := if N < 0 ∨ 4096 < N then 1 else if (l.length : Int) < N then 9 else 0
def drawL (l : List UInt8) (N : Int) : List UInt8 := if drawE l N = 0 then l.take N.toNat else []
def drawR (l : List UInt8) (N : Int) : List UInt8 := if drawE l N = 0 then l.drop N.toNat else l
theorem draw_join (l : List UInt8) (N : Int) : drawL l N ++ drawR l N = l := by
  unfold drawL drawR
  split <;> simp
theorem draw_len (l : List UInt8) (N : Int) : (drawL l N).length + (drawR l N).length = l.length := by
  rw [← List.length_append, draw_join]
theorem draw_ok {l : List UInt8} {N : Int} (h : drawE l N = 0) : 0 ≤ N ∧ N ≤ 4096 ∧ N ≤ l.length := by
  unfold drawE at h
  split at h
  · cases h
  · split at h
    · cases h
    · omega
theorem draw_fit {l : List UInt8} {N : Int} (h : drawE l N = 0) : ((drawL l N).length : Int) = N := by
  obtain ⟨h0, h1, h2⟩ := draw_ok h
  unfold drawL
  rw [if_pos h, List.length_take]
  omega
theorem draw_none {l : List UInt8} {N : Int} (h : drawE l N ≠ 0) : drawL l N = [] ∧ drawR l N = l := by
  unfold drawL drawR
  rw [if_neg h, if_neg h]
  exact ⟨rfl, rfl⟩

end Go.Proofs.YtlnoopmblmkgkaaGreatDoor

namespace Go.Proofs.YtlnoopmblmkgkaaGreatDoor
set_option maxRecDepth 100000
open Go.RowKit
set_option linter.unusedVariables false
set_option linter.unusedSimpArgs false

set_option maxHeartbeats 400000 in
theorem grow_any (m : Nat) (w : World) (hm : m ≤ 1000000) :
    Calls Tryz.prog 120 #[.slice none 0 0, .int .i64 (m : Int)] w (RetBytes 5 w 0 []) := by
  obtain ⟨i0, hi, hz0, hz1, hz2⟩ := info_parts u8_info
  rcases Nat.eq_zero_or_pos m with h0 | h0
  · subst h0
    go_enter Tryz.func120, Tryz.ntmps120
    go_wp2
    go_ret
    exact retBytes rfl rfl (World.ownsRow_nil _ _ _ _) (Below.refl _ _)
  · have hq : ¬ ((m : Int) < 0) := by omega
    have hq2 : (0 : Int) < (m : Int) := by omega
    obtain ⟨v6, w6, hr6, own6, grow6, _⟩ := run_append_own_zeros (P := Tryz.prog) w w.heap.size 22 3 22 5 i0 .i64 .i64 .u8 Tryz.underlying22 Tryz.underlying3 hi hz0 hz1 1 hz2 (.slice none 0 0) 0 [] (World.ownsRow_nil _ _ _ _) m (by unfold maxLen; omega) (by omega) (by omega) (Nat.le_refl _)
    obtain ⟨A6, c6, rfl⟩ := own_form own6
    have hb6 : Below w.heap.size w w6 := (Below.refl _ w).grown grow6 (Nat.le_refl _) (by simp [Value.ownBlock])
    have own7 := own_head own6 (Nat.zero_le _)
    have HO := Lib.hid own7
    clear own6 own7 grow6
    go_enter Tryz.func120, Tryz.ntmps120
    go_wp2_with (first
      | (at_builtin; refine wpList_append_zeros w rfl _ _ 22 3 rfl _ _ .i64 _ w6 rfl rfl hr6 ?_)
      | (refine wpList_slice_h rfl 22 _ _ rfl 5 Tryz.underlying22 u8_size _ _ _ 0 .i64 _ rfl rfl rfl (by omega) ?_))
    go_ret
    exact retBytes rfl rfl HO.out hb6

set_option maxHeartbeats 1000000 in
theorem concat_any (ls : List (List UInt8)) (w : World) (A : Option Addr) (n c : Nat) (hp : Parts w w.heap.size A n ls) (hn : n ≤ 1000000) (T : Nat) (F : List UInt8) (hT : T = F.length) (hF : ls.flatten = F) (hm : T ≤ 1000000) :
    Calls Tryz.prog 83 #[.slice A n c] w (RetBytes 5 w T F) := by
  obtain ⟨i0, hi, hz0, hz1, hz2⟩ := info_parts u8_info
  have hpl := hp.len
  subst hpl
  have HT := Lib.hid hT
  have HFF := Lib.hid hF
  replace hm : ls.flatten.length ≤ 1000000 := by rw [hF]; omega
  have HM := Lib.hid hm
  clear hT hF hm
  go_enter Tryz.func83, Tryz.ntmps83
  go_wp2
  go_loop [3, 11] (fun s i => ∃ k N : Nat, k ≤ ls.length ∧ i = .int .i64 k ∧ s = .int .i64 (N : Int) ∧ Hid (N = (ls.take k).flatten.length)) (fun _ i => ls.length - (intOf i).toNat)
  case atStart => exact ⟨0, 0, by omega, rfl, rfl, by unfold Hid; simp⟩
  case round =>
    obtain ⟨k, N, hk, rfl, rfl, HN⟩ := hrel
    have hNle : N ≤ 1000000 := by have h1 := HN.out; have h2 := flat_le ls k; have h3 := HM.out; omega
    by_cases hlt : k < ls.length
    · obtain ⟨ad, A', c', rfl, hcell, _, hcc, _⟩ := hp.at_ hlt
      have HN2 : Hid (N + ls[k].length = (ls.take (k + 1)).flatten.length) := by unfold Hid; rw [flat_take ls k hlt, List.length_append, HN.out]
      have hle : N + ls[k].length ≤ 1000000 := by have h1 := HN2.out; have h2 := flat_le ls (k + 1); have h3 := HM.out; omega
      have hq : ¬ ((N : Int) + (ls[k].length : Int) < 0) := by omega
      go_wp2
      go_round
      case rel => exact ⟨k + 1, N + ls[k].length, by omega, by go_num, by go_num, HN2⟩
      case measure => simp [intOf]; omega
    · have HK : Hid (N = ls.flatten.length) := by unfold Hid; rw [HN.out, List.take_of_length_le (by omega)]
      have hkI : ¬ (k : Int) < (ls.length : Int) := by omega
      clear HN
      go_wp2_with fail
      refine (grow_any N w hNle).mono ?_
      rintro e w1 ⟨A1, c1, rfl, h1⟩
      have hb1 := h1.below
      have own1 := h1.own
      clear h1
      go_wp2
      go_loopw [6, 27] (fun v i wr => ∃ k N : Nat, k ≤ ls.length ∧ i = .int .i64 k ∧ Hid (N = (ls.take k).flatten.length) ∧ wr.ownsRow w.heap.size 5 1 v N (cb (ls.take k).flatten) ∧ Below w.heap.size w wr) (fun _ i _ => ls.length - (intOf i).toNat)
      case atStart => exact ⟨0, 0, by omega, rfl, by unfold Hid; simp, by simpa [cb] using own1, hb1⟩
      case round =>
        clear own1 hb1
        obtain ⟨k2, N2, hk2, rfl, HN2, hown, hb⟩ := hrel
        obtain ⟨Aa, ca, rfl⟩ := own_form hown
        have hN2le : N2 ≤ 1000000 := by have h1 := HN2.out; have h2 := flat_le ls k2; have h3 := HM.out; omega
        by_cases hlt2 : k2 < ls.length
        · have hp2 := hp.below hb
          obtain ⟨ad, A', c', rfl, hcell, hsl, hcc, hnn⟩ := hp2.at_ hlt2
          have HL : Hid ((ls.take (k2 + 1)).flatten = (ls.take k2).flatten ++ ls[k2]) := flat_take ls k2 hlt2
          have hle : N2 + ls[k2].length ≤ 1000000 := by have h1 := HL.out; have h2 := flat_le ls (k2 + 1); rw [h1, List.length_append] at h2; have h3 := HN2.out; have h4 := HM.out; omega
          clear hp2
          go_wp2_with (at_builtin; refine wpList_append_sl _ rfl _ _ 22 rfl w.heap.size 5 i0 (.int .u8 0) 1 Tryz.underlying22 hi hz0 hz1 hz2 rfl _ N2 _ rfl hown _ A' ls[k2].length c' (cb ls[k2]) rfl hsl hnn (cb_one _) (by unfold maxLen; omega) (by omega) hb.size ?_; intro v5 w5 hown5 hgrow5 hat5; obtain ⟨A5, c5, rfl⟩ := own_form hown5)
          have hb5 := below_app hb (Nat.le_refl _) hown hgrow5
          rw [← cb_append, ← HL.out] at hown5
          go_roundw
          case rel => exact ⟨k2 + 1, N2 + ls[k2].length, by omega, by go_num, by unfold Hid; rw [HL.out, List.length_append, HN2.out], hown5, hb5⟩
          case measure => simp [intOf]; omega
        · have hk2I : ¬ (k2 : Int) < (ls.length : Int) := by omega
          have HF : Hid ((ls.take k2).flatten = ls.flatten) := by unfold Hid; rw [List.take_of_length_le (by omega)]
          go_wp2
          go_ret
          exact retBytes (by rw [HN2.out, HF.out, HFF.out, HT.out]) (by rw [HF.out, HFF.out]) hown hb

end Go.Proofs.YtlnoopmblmkgkaaGreatDoor
