/- What Blocks gives, ranged over. -/
import Derived.Test.YtnhpamfmbledmaaDoorChaG
import Derived.Test.YtnhpamfmbledmaaDoorRng
namespace Go.Proofs.YtnhpamfmbledmaaDoor
open Go.RowKit
set_option linter.unusedVariables false
set_option linter.unusedSimpArgs false
attribute [local go_sem] Oper.semAt_some

/-- What a round is handed. -/
abbrev bencs (key nonce : List UInt8) (f x : Nat) : Array Value := #[.int .u32 ((f + x : Nat) : Int), .agg (cb (cblk key nonce (f + x))).toArray]
/-- The blocks that the iterator reads. -/
def bkeep (gS : Nat) (g : Nat) : Prop := g = gS ∨ g = 0
theorem grown_below {a b : World} (h : Below a.heap.size a b) (row : Option Nat) : a.grownBy b row := ⟨h.os, h.tape, h.output, h.size, fun i hi _ => h.block i hi⟩

set_option maxRecDepth 100000 in
set_option maxHeartbeats 600000 in
theorem blocks2_stops (key nonce : List UInt8) (f gF gS m : Nat) (w0 : World) (hf : f < 4294967296) (bF : Bl w0 gF [.int .u32 (f : Int)] 23) (bS : Bl w0 gS (us (stOf key nonce 0)) 47) (hT : TabC w0) :
    SeqStopsK Fence.wide m Tryd.prog 24 #[.pointer (some ⟨gF, 0, none⟩), .pointer (some ⟨gS, 0, none⟩)] (bencs key nonce f) (KeepsBl (bkeep gS)) (fun xs => xs = List.range (4294967296 - f)) (fun pre => ∃ k, pre = List.range k) (4294967296 - f) w0 := fun l J Jx W hW hJ hJx hY h0 => by
  obtain ⟨s, hs⟩ : ∃ s, s = stOf key nonce 0 := ⟨_, rfl⟩
  rw [← hs] at bS
  have HSL : Hid (s.length = 16) := by unfold Hid; rw [hs, stOf_len]
  have HSW : Hid (Wds s) := by unfold Hid; rw [hs]; exact stOf_ok _ _ _ (by decide)
  have HS := Lib.hid hs
  have hcF : W.cell? ⟨gF, 0, none⟩ = some (.int .u32 (f : Int)) := (bF.next hW).cell 0
  have bS1 := bS.next hW
  have hT1 := hT.next hW
  have HJ := Lib.hid hJ
  have HJx := Lib.hid hJx
  have HY := Lib.hid hY
  clear hs bF bS hT hJ hJx hY
  refine callsIn_of_wp Tryd.func24 rfl trivial ?_ rfl
  simp only [Tryd.ntmps24, List.size_toArray, List.length_cons, List.length_nil, Nat.reduceAdd, Nat.reduceSub, Array.replicate_succ, Array.replicate_zero, List.push_toArray, List.append_toArray, List.nil_append, List.cons_append]
  gi_wp2
  gi_loopw [4] (fun v wr => ∃ k : Nat, k < 4294967296 - f ∧ v = .int .u32 ((f + k : Nat) : Int) ∧ J (List.range k) wr ∧ Bl wr gS (us s) 47 ∧ TabC wr) (fun v _ => 4294967296 - (intOf v).toNat)
  case atStart => exact ⟨0, by omega, rfl, h0, bS1, hT1⟩
  case round =>
    clear bS1 hT1 hcF h0
    obtain ⟨k, hk, rfl, hJk, bS, hT⟩ := hrel
    obtain ⟨N, hN⟩ : ∃ N, N = f + k := ⟨_, rfl⟩
    rw [← hN]
    obtain ⟨B, hB⟩ : ∃ B, B = cblk key nonce N := ⟨_, rfl⟩
    have HB : Hid (B = blkS (s.set 12 N)) := by unfold Hid; rw [hB, HS.out, stb]
    have hNl : N < 4294967296 := by omega
    have eN : (f : Int) + (k : Int) = (N : Int) := by omega
    have HN := Lib.hid hN
    have HBN := Lib.hid hB
    clear hN hB
    gi_wp2_with (first
      | (refine wpListIn_of_one wide_wide (by rintro ⟨a', w', h⟩; obtain ⟨⟨v, hv⟩, _⟩ := h; cases hv) (by intro c h; cases h) rfl ?_; refine wpList_load_mid rfl 47 _ rfl _ _ rfl (us s) _ bS.whole Tryd.underlying47 rfl (by rw [size_16, us_len, HSL.out]) ?_; change wpListIn Fence.wide _ _ _ _ _ _ _)
      | fail)
    refine ⟨trivial, (fun h => by cases h), ?_⟩
    refine (wide_wide.calls (bo_any s N _ HSL.out HSW.out hNl hT B HB.out)).mono ?_
    rintro e w1 ⟨rfl, hb1⟩
    have hJ1 : J (List.range k) w1 := HJ.out _ _ _ none hJk (grown_below hb1 none) (fun r e => by cases e)
    have bS1 := bS.next hb1
    have hT1 := hT.next hb1
    obtain ⟨fn, tmps, assign, body, hy, hR⟩ := HY.out (List.range k) k w1 hJ1 (by simp; omega)
    have hy' : (Instr.yield l #[.int .u32 (N : Int), .agg (cb B).toArray]).run Tryd.prog w1 = .ok (.round l fn tmps assign body) w1 := by rw [HBN.out, HN.out]; exact hy
    clear hy hJk bS hT hJ1 hb1
    gi_wp2
    refine ⟨(fun h => by cases h), ?_⟩
    refine hR.mono ?_
    clear hy' hR
    have HR : Hid (List.range k ++ [k] = List.range (k + 1)) := by unfold Hid; rw [List.range_succ]
    rintro e W3 (⟨rfl, hJ3, hk3⟩ | ⟨rfl, hJx3⟩)
    · rw [HR.out] at hJ3
      have bS3 : Bl W3 gS (us s) 47 := bS1.keep (hk3 gS (.inl rfl))
      have hT3 : TabC W3 := hT1.keep (hk3 _ (.inr rfl))
      clear hk3 bS1 hT1
      by_cases hlast : N = 4294967295
      · have hq : ((N : Int) == 4294967295) = true := by simp; omega
        have HE : Hid (k + 1 = 4294967296 - f) := (by have := HN.out; omega : k + 1 = 4294967296 - f)
        gi_wp2
        refine bodyPost_ret (results_none rfl _ _ _) rfl ?_
        exact ⟨⟨_, rfl⟩, .inl ⟨_, by rw [HE.out], hJ3⟩⟩
      · have hq : ((N : Int) == 4294967295) = false := by simp; omega
        have hw1 : IntKind.u32.wrap ((N : Int) + 1) = (N : Int) + 1 := by simp only [IntKind.wrap_u32]; omega
        gi_wp2
        go_roundw
        case rel => exact ⟨k + 1, by have := HN.out; omega, by have := HN.out; congr 1; omega, hJ3, bS3, hT3⟩
        case measure => simp [intOf]; omega
    · rw [HR.out] at hJx3
      gi_wp2
      go_end0
      exact ⟨⟨_, rfl⟩, .inr ⟨_, ⟨k + 1, rfl⟩, hJx3⟩⟩

end Go.Proofs.YtnhpamfmbledmaaDoor
