/- A range over a function: what the plain walk gives is had inside a round too, where the fence bars nothing; a block abides. No program is named here. -/
import Derived.Test.YtlnoopmblmkgkaaGreatDoorLG
import Derived.RangeFuncNested
import Derived.RangeFuncBound
import Derived.RangeFuncCalls
import Derived.RangeFuncLeaves
import Derived.Shelf.Abstract
import Derived.WalkKit
import Derived.OwnWalkIn
import Derived.TacticsInMore
import Derived.OrdersIn
import Derived.LoopNIn
import Derived.LoopIn
import Derived.Test.YtlnoopmblmkgkaaGreatDoorLC
namespace Go.Proofs.YtlnoopmblmkgkaaGreatDoor
set_option maxRecDepth 100000
open Go Go.RowKit

/-- A fence that bars nothing. -/
structure Wide (F : Fence) : Prop where
  fn : ∀ f, F.fn f
  depth : F.depth = none
  calls : ∀ {n : Nat} {P : Program} {f : FuncId} {args : Array Value} {w : World} {R : Ending → World → Prop}, Calls P f args w R → CallsIn F n P f args w R
  rows : ∀ {n : Nat} {P : Program} {row : String} {args : Array Value} {w : World} {R : Value → World → Prop}, Rows P row args w R → RowsIn F n P row args w R
theorem wide_wide : Wide Fence.wide :=
  ⟨fun _ => trivial, rfl, fun h => callsIn_wide.2 h, fun h c cs _ => let ⟨v, w', r, s⟩ := h c cs; ⟨v, w', r, stepsIn_wide.2 s⟩⟩
theorem wide_round (l : Nat) : Wide (Fence.wide.inRound l) :=
  ⟨fun _ => trivial, rfl, fun h => CallsIn.inRound l (callsIn_wide.2 h), fun h c cs _ => let ⟨v, w', r, s⟩ := h c cs; ⟨v, w', r, stepsIn_wide.2 s⟩⟩

section
variable {F : Fence} {n : Nat} {P : Program} {ops : Array Oper} {Q : Exit → Act → World → Prop} {md : Region.Mode} {o : Oper} {a : Act} {w : World} {K K' : Act → World → Prop}

theorem upon_in (hF : Wide F) (hK : ∀ a w, K a w → K' a w) {r : Result Next} (h : o.upon P a K Q r) : o.uponIn F n P a K' Q r := by
  have hd : F.depth.isSome = true → 1 ≤ n := by rw [hF.depth]; simp
  cases r with
  | ok x w' =>
    cases x <;> simp only [Oper.upon, Oper.uponIn] at h ⊢ <;>
      first
        | exact hK _ _ h
        | exact ⟨hd, (hF.calls h).mono (fun e w'' he => by cases e <;> first | exact hK _ _ he | exact he)⟩
        | exact ⟨hd, (hF.rows h).mono (fun _ _ he => hK _ _ he)⟩
        | exact h.elim
  | halt x w' => cases x <;> simp only [Oper.upon, Oper.uponIn] at h ⊢ <;> exact h

theorem oper_in (hF : Wide F) (hd : ∀ c, o.op ≠ .defer c) (hK : ∀ a w, K a w → K' a w) (h : o.wp P a w K Q) : o.wpIn F n P a w K' Q :=
  ⟨fun f _ => hF.fn f, by rw [Oper.semAt_eq _ _ _ hd]; exact upon_in hF hK h⟩

/-- No operation defers. -/
def noDefer (ops : Array Oper) : Bool := ops.all fun o => match o.op with | .defer _ => false | _ => true
theorem noDefer_spec (h : noDefer ops = true) {i : Nat} {o : Oper} (ho : ops[i]? = some o) : ∀ c, o.op ≠ .defer c := by
  intro c heq
  have := Array.all_eq_true_iff_forall_mem.1 h o (Array.mem_of_getElem? ho)
  simp [heq] at this

theorem wpAnyIn_of_any (hF : Wide F) (hL : ¬ LetsOut Q) (hd : noDefer ops = true) : ∀ (fuel : Nat) (listed : Array Bool) (a : Act) (w : World), wpAny P md ops Q fuel listed a w → wpAnyIn F n P md ops Q fuel listed a w
  | 0, _, _, _, h => h
  | fuel + 1, listed, a, w, h => ⟨h.1, fun i hi => by
      have h1 := h.2 i hi
      unfold wpOp at h1
      unfold wpOpIn
      cases ho : ops[i]? with
      | none =>
        simp only [ho] at h1 ⊢
        exact wpAnyIn_of_any hF hL hd fuel _ _ _ h1
      | some o =>
        simp only [ho] at h1 ⊢
        split
        · rename_i hw
          simp only [hw, if_true] at h1
          rcases h1 with h1 | h1
          · exact oper_in hF (noDefer_spec hd ho) (fun a' w' h' => wpAnyIn_of_any hF hL hd fuel _ a' w' h') h1
          · exact absurd h1.2 hL
        · rename_i hw
          simp only [hw] at h1
          exact ⟨fun f _ => hF.fn f, wpAnyIn_of_any hF hL hd fuel _ _ _ h1⟩⟩

/-- A region that draws its order, inside a round, by the plain walk of all orders. -/
theorem wpIn_region_plain {id : Nat} (hF : Wide F) (hL : ¬ LetsOut Q) (hd : noDefer ops = true) (hm : P.follows .mixedOrders = true)
    (h : wpAny P .any ops Q ops.size (Array.replicate ops.size false) a w.drew) : (Code.region id ops true).wpIn F n P Q a w :=
  wpIn_region_any hm (wpAnyIn_of_any hF hL hd _ _ _ _ h)

/-- One operation inside a round, by a law of the plain walk. -/
def behind (Q : Exit → Act → World → Prop) (K : Act → World → Prop) : Exit → Act → World → Prop
  | .normal, a, w => K a w
  | e, a, w => Q e a w
theorem wpListIn_of_one {rest : List Oper} (hF : Wide F) (hL : ¬ LetsOut Q) (hd : ∀ c, o.op ≠ .defer c) (hg : o.guard = none)
    (h : wpList P ops (behind Q (wpListIn F n P ops Q rest)) [o] a w) : wpListIn F n P ops Q (o :: rest) a w := by
  have hw : Region.wanted o (yielded ops a.tmps) = true := by simp [Region.wanted, hg]
  unfold wpList at h
  rw [if_pos hw] at h
  unfold wpListIn
  rw [if_pos hw]
  rcases h with h | ⟨_, a', w', h⟩
  · have h2 : o.wp P a w (wpListIn F n P ops Q rest) Q := by
      unfold Oper.wp at h ⊢
      generalize (execOp a.eval o).run P w = r at h ⊢
      cases r with
      | ok x w' => 
        cases x <;> simp only [Oper.upon] at h ⊢ <;>
          first
            | exact h
            | exact h.mono (fun e w'' he => by cases e <;> first | exact he | (obtain ⟨a', w', he⟩ := he; exact ⟨a', w', he⟩))
            | exact h.mono (fun _ _ he => he)
      | halt x w' => cases x <;> simp only [Oper.upon] at h ⊢ <;> exact h
    exact oper_in hF hd (fun _ _ h => h) h2
  · exact absurd ⟨a', w', h⟩ hL

end

/-- A block of cells abides what the law of the range turns. -/
theorem bl_abides {B g : Nat} {cs : List Value} {t : TypeId} {W W' : World} {row : Option Nat} (hs : Bl W g cs t) (hg : W.grownBy W' row) (hr : ∀ r, row = some r → B ≤ r ∧ ∃ o : Obj, W.heap[r]? = some o ∧ o.isCells = false) : Bl W' g cs t :=
  hs.keep (hg.block g hs.lt (fun e => by
    obtain ⟨_, o, ho, hc⟩ := hr g e.symm
    rw [show W.heap[g]? = _ from hs] at ho
    cases ho
    cases hc))
theorem ownFrom_bl {β : Type} {B g : Nat} {t : TypeId} (f : β → List Value) : OwnFrom B (fun (s : β) W => Bl W g (f s) t) := fun _ _ _ _ hs hg hr => bl_abides hs hg hr

/-- Some blocks lie as they lay. -/
def KeepsBl (K : Nat → Prop) (W W' : World) : Prop := ∀ g, K g → W'.heap[g]? = W.heap[g]?
theorem keepsBl_t {K : Nat → Prop} {A B C : World} (h : KeepsBl K A B) (k : KeepsBl K B C) : KeepsBl K A C := fun g hg => (k g hg).trans (h g hg)
theorem keepsBl_b {K : Nat → Prop} {w : World} (hK : ∀ g, K g → g < w.heap.size) (W : World) (l : Nat) (o o' : Obj) (hl : w.heap.size ≤ l) (_ : W.heap[l]? = some o) (_ : o.isCells = false) (_ : o.isWalk = false) : KeepsBl K W (W.putObj l o') :=
  fun g hg => World.putObj_heap_other (by have := hK g hg; omega)

end Go.Proofs.YtlnoopmblmkgkaaGreatDoor

namespace Go.Proofs.YtlnoopmblmkgkaaGreatDoor
set_option maxRecDepth 100000
open Go.RowKit
set_option linter.unusedVariables false
set_option linter.unusedSimpArgs false
attribute [local go_sem] Oper.semAt_some

/-- What a round is handed. -/
abbrev bencs (key nonce : List UInt8) (f x : Nat) : Array Value := #[.int .u32 ((f + x : Nat) : Int), .agg (cb (cblk key nonce (f + x))).toArray]
/-- The blocks that the iterator reads. -/
def bkeep (gS : Nat) (g : Nat) : Prop := g = gS ∨ g = 1
theorem grown_below {a b : World} (h : Below a.heap.size a b) (row : Option Nat) : a.grownBy b row := ⟨h.os, h.tape, h.output, h.size, fun i hi _ => h.block i hi⟩

set_option maxRecDepth 100000 in
set_option maxHeartbeats 600000 in
theorem blocks2_stops (key nonce : List UInt8) (f gF gS m : Nat) (w0 : World) (hf : f < 4294967296) (bF : Bl w0 gF [.int .u32 (f : Int)] 81) (bS : Bl w0 gS (us (stOf key nonce 0)) 160) (hT : TabC w0) :
    SeqStopsK Fence.wide m Tryz.prog 131 #[.pointer (some ⟨gF, 0, none⟩), .pointer (some ⟨gS, 0, none⟩)] (bencs key nonce f) (KeepsBl (bkeep gS)) (fun xs => xs = List.range (4294967296 - f)) (fun pre => ∃ k, pre = List.range k) (4294967296 - f) w0 := fun l J Jx W hW hJ hJx hY h0 => by
  obtain ⟨s, hs⟩ : ∃ s, s = stOf key nonce 0 := ⟨_, rfl⟩
  rw [← hs] at bS
  have HSL : Hid (s.length = 16) := by unfold Hid; rw [hs, stOf_len]
  have HSW : Hid (Wds s) := by unfold Hid; rw [hs]; exact stOf_ok _ _ _ (by decide)
  have HS := Lib.hid hs
  have hcF : W.cell? ⟨gF, 0, none⟩ = some (.int .u32 (f : Int)) := (bF.next hW).cell 0
  have bS1 := bS.next hW
  have hT1 := hT.next hW
  have HJ := Lib.hid hJ
  have HJx := Lib.hid hJx
  have HY := Lib.hid hY
  clear hs bF bS hT hJ hJx hY
  refine callsIn_of_wp Tryz.func131 rfl trivial ?_ rfl
  simp only [Tryz.ntmps131, List.size_toArray, List.length_cons, List.length_nil, Nat.reduceAdd, Nat.reduceSub, Array.replicate_succ, Array.replicate_zero, List.push_toArray, List.append_toArray, List.nil_append, List.cons_append]
  gi_wp2
  gi_loopw [4] (fun v wr => ∃ k : Nat, k < 4294967296 - f ∧ v = .int .u32 ((f + k : Nat) : Int) ∧ J (List.range k) wr ∧ Bl wr gS (us s) 160 ∧ TabC wr) (fun v _ => 4294967296 - (intOf v).toNat)
  case atStart => exact ⟨0, by omega, rfl, h0, bS1, hT1⟩
  case round =>
    clear bS1 hT1 hcF h0
    obtain ⟨k, hk, rfl, hJk, bS, hT⟩ := hrel
    obtain ⟨N, hN⟩ : ∃ N, N = f + k := ⟨_, rfl⟩
    rw [← hN]
    obtain ⟨B, hB⟩ : ∃ B, B = cblk key nonce N := ⟨_, rfl⟩
    have HB : Hid (B = blkS (s.set 12 N)) := by unfold Hid; rw [hB, HS.out, stb]
    have hNl : N < 4294967296 := by omega
    have eN : (f : Int) + (k : Int) = (N : Int) := by omega
    have HN := Lib.hid hN
    have HBN := Lib.hid hB
    clear hN hB
    gi_wp2_with (first
      | (refine wpListIn_of_one wide_wide (by rintro ⟨a', w', h⟩; obtain ⟨⟨v, hv⟩, _⟩ := h; cases hv) (by intro c h; cases h) rfl ?_; refine wpList_load_mid rfl 160 _ rfl _ _ rfl (us s) _ bS.whole Tryz.underlying160 rfl (by rw [size_16, us_len, HSL.out]) ?_; change wpListIn Fence.wide _ _ _ _ _ _ _)
      | fail)
    refine ⟨trivial, (fun h => by cases h), ?_⟩
    refine (wide_wide.calls (bo_any s N _ HSL.out HSW.out hNl hT B HB.out)).mono ?_
    rintro e w1 ⟨rfl, hb1⟩
    have hJ1 : J (List.range k) w1 := HJ.out _ _ _ none hJk (grown_below hb1 none) (fun r e => by cases e)
    have bS1 := bS.next hb1
    have hT1 := hT.next hb1
    obtain ⟨fn, tmps, assign, body, hy, hR⟩ := HY.out (List.range k) k w1 hJ1 (by simp; omega)
    have hy' : (Instr.yield l #[.int .u32 (N : Int), .agg (cb B).toArray]).run Tryz.prog w1 = .ok (.round l fn tmps assign body) w1 := by rw [HBN.out, HN.out]; exact hy
    clear hy hJk bS hT hJ1 hb1
    gi_wp2
    refine ⟨(fun h => by cases h), ?_⟩
    refine hR.mono ?_
    clear hy' hR
    have HR : Hid (List.range k ++ [k] = List.range (k + 1)) := by unfold Hid; rw [List.range_succ]
    rintro e W3 (⟨rfl, hJ3, hk3⟩ | ⟨rfl, hJx3⟩)
    · rw [HR.out] at hJ3
      have bS3 : Bl W3 gS (us s) 160 := bS1.keep (hk3 gS (.inl rfl))
      have hT3 : TabC W3 := hT1.keep (hk3 _ (.inr rfl))
      clear hk3 bS1 hT1
      by_cases hlast : N = 4294967295
      · have hq : ((N : Int) == 4294967295) = true := by simp; omega
        have HE : Hid (k + 1 = 4294967296 - f) := (by have := HN.out; omega : k + 1 = 4294967296 - f)
        gi_wp2
        refine bodyPost_ret (results_none rfl _ _ _) rfl ?_
        exact ⟨⟨_, rfl⟩, .inl ⟨_, by rw [HE.out], hJ3⟩⟩
      · have hq : ((N : Int) == 4294967295) = false := by simp; omega
        have hw1 : IntKind.u32.wrap ((N : Int) + 1) = (N : Int) + 1 := by simp only [IntKind.wrap_u32]; omega
        gi_wp2
        go_roundw
        case rel => exact ⟨k + 1, by have := HN.out; omega, by have := HN.out; congr 1; omega, hJ3, bS3, hT3⟩
        case measure => simp [intOf]; omega
    · rw [HR.out] at hJx3
      gi_wp2
      go_end0
      exact ⟨⟨_, rfl⟩, .inr ⟨_, ⟨k + 1, rfl⟩, hJx3⟩⟩

end Go.Proofs.YtlnoopmblmkgkaaGreatDoor

namespace Go.Proofs.YtlnoopmblmkgkaaGreatDoor
set_option maxRecDepth 100000
open Go.RowKit
set_option linter.unusedVariables false
set_option linter.unusedSimpArgs false
attribute [local go_sem] Oper.semAt_some

theorem mix_none (key nonce b : List UInt8) (f : Nat) (A0 A1 A3 : Option Addr) (n0 n1 n3 c0 c1 c3 : Nat) (w : World) (h0 : Sl w w.heap.size A0 n0 (cb key)) (h1 : Sl w w.heap.size A1 n1 (cb nonce)) (hfit : ¬ fitK key nonce = true) :
    Calls Tryz.prog 63 #[.slice A0 n0 c0, .slice A1 n1 c1, .int .u32 f, .slice A3 n3 c3] w (RetFill 5 w (mixR key nonce f b) (mixE key nonce f b)) := by
  have hn0 : n0 = key.length := by rw [← h0.1, cb_len]
  have hn1 : n1 = nonce.length := by rw [← h1.1, cb_len]
  have hq : (n0 == 32 && n1 == 12) = false := by rw [hn0, hn1]; simpa [fitK] using hfit
  have HR : Hid (mixR key nonce f b = []) := by unfold Hid mixR; rw [if_neg hfit]
  have HE : Hid (mixE key nonce f b = 1) := by unfold Hid mixE; rw [if_neg hfit]
  have hf := fit_any n0 n1 c0 c1 A0 A1 (w.alloc (.cells #[.slice A3 n3 c3] 22))
  rw [hq] at hf
  have HF := Lib.hid hf
  clear hf hq hn0 hn1 hfit
  go_enter Tryz.func63, Tryz.ntmps63
  go_wp2_with fail
  refine HF.out.mono ?_
  rintro e w' ⟨rfl, rfl⟩
  go_wp2
  go_ret2
  rw [HR.out, HE.out]
  exact ⟨none, 0, 0, rfl, World.ownsRow_nil _ _ _ _, (Below.refl _ w).alloc (Nat.le_refl _) _⟩

theorem mix_cap (key nonce b : List UInt8) (f : Nat) (A0 A1 A3 : Option Addr) (n0 n1 n3 c0 c1 c3 : Nat) (w : World) (hf : f < 4294967296) (h0 : Sl w w.heap.size A0 n0 (cb key)) (h1 : Sl w w.heap.size A1 n1 (cb nonce)) (h3 : Sl w w.heap.size A3 n3 (cb b)) (hm : n3 ≤ 1000000000) (hfit : fitK key nonce = true) (hcap : ¬ blksN b.length ≤ 4294967296 - f) :
    Calls Tryz.prog 63 #[.slice A0 n0 c0, .slice A1 n1 c1, .int .u32 f, .slice A3 n3 c3] w (RetFill 5 w (mixR key nonce f b) (mixE key nonce f b)) := by
  have hn0 : n0 = key.length := by rw [← h0.1, cb_len]
  have hn1 : n1 = nonce.length := by rw [← h1.1, cb_len]
  have hn3 : n3 = b.length := by rw [← h3.1, cb_len]
  have hq : (n0 == 32 && n1 == 12) = true := by rw [hn0, hn1]; simpa [fitK] using hfit
  have HR : Hid (mixR key nonce f b = []) := by unfold Hid mixR; rw [if_pos hfit, if_neg hcap]
  have HE : Hid (mixE key nonce f b = 10) := by unfold Hid mixE; rw [if_pos hfit, if_neg hcap]
  have hff := fit_any n0 n1 c0 c1 A0 A1 (w.alloc (.cells #[.slice A3 n3 c3] 22))
  rw [hq] at hff
  have HF := Lib.hid hff
  rw [← hn3] at hcap
  obtain ⟨k, hk⟩ : ∃ k, k = blksN n3 := ⟨_, rfl⟩
  have hb := bfor_any n3 (w.alloc (.cells #[.slice A3 n3 c3] 22)) (by omega)
  have hkb : k ≤ 100000000 := by rw [hk]; unfold blksN; omega
  rw [← hk] at hcap hb
  have HB := Lib.hid hb
  have hgt : (4294967295 : Int) - (f : Int) + 1 < (k : Int) := by omega
  clear hff hq hn0 hn1 hn3 hfit hcap hb hk
  go_enter Tryz.func63, Tryz.ntmps63
  go_wp2_with fail
  refine HF.out.mono ?_
  rintro e w' ⟨rfl, rfl⟩
  go_wp2_with fail
  refine HB.out.mono ?_
  rintro e w' ⟨rfl, rfl⟩
  go_wp2
  go_ret2
  rw [HR.out, HE.out]
  exact ⟨none, 0, 0, rfl, World.ownsRow_nil _ _ _ _, (Below.refl _ w).alloc (Nat.le_refl _) _⟩

/-- The bytes while they are mixed: the rounds so far. -/
def mixP (key nonce : List UInt8) (f : Nat) (b : List UInt8) (pre : List Nat) : List UInt8 := (List.range b.length).map fun i => if i < 64 * pre.length then b.getD i 0 ^^^ (cblk key nonce (f + pre.getD (i / 64) 0)).getD (i % 64) 0 else 0
theorem mixP_len (key nonce : List UInt8) (f : Nat) (b : List UInt8) (pre : List Nat) : (mixP key nonce f b pre).length = b.length := by simp [mixP]
theorem mixP_nil (key nonce : List UInt8) (f : Nat) (b : List UInt8) : cb (mixP key nonce f b []) = zeros .u8 b.length := by
  rw [zeros_cb]
  congr 1
  apply List.ext_getElem?
  intro i
  simp only [mixP, List.length_nil, Nat.mul_zero, Nat.not_lt_zero, if_false, List.getElem?_map, List.getElem?_replicate]
  by_cases hi : i < b.length
  · simp [hi]
  · simp [hi]
theorem mixP_all (key nonce : List UInt8) (f : Nat) (b : List UInt8) (k : Nat) (h : b.length ≤ 64 * k) : mixP key nonce f b (List.range k) = mixL key nonce f b := by
  unfold mixP mixL
  apply List.map_congr_left
  intro i hi
  have hi' := List.mem_range.1 hi
  have hd : i / 64 < k := by omega
  rw [if_pos (by simp; omega)]
  simp [List.getElem?_range, hd]
theorem mixP_at (key nonce : List UInt8) (f : Nat) (b : List UInt8) (pre : List Nat) (i : Nat) (hi : i < b.length) : (mixP key nonce f b pre)[i]? = some (if i < 64 * pre.length then b.getD i 0 ^^^ (cblk key nonce (f + pre.getD (i / 64) 0)).getD (i % 64) 0 else 0) := by
  simp [mixP, hi]
theorem mixP_next (key nonce : List UInt8) (f : Nat) (b : List UInt8) (pre : List Nat) (x t : Nat) (h : 64 * pre.length ≤ b.length) (ht : t = min (b.length - 64 * pre.length) 64) :
    splice (cb (mixP key nonce f b pre)) (64 * pre.length) (cb (xl ((b.drop (64 * pre.length)).take t) ((cblk key nonce (f + x)).take t))) = cb (mixP key nonce f b (pre ++ [x])) := by
  rw [← cb_splice]
  congr 1
  have hz : (xl ((b.drop (64 * pre.length)).take t) ((cblk key nonce (f + x)).take t)).length = t := by rw [xl_take_len _ _ _ (by simp; omega) (by rw [cblk_len]; omega)]
  apply List.ext_getElem?
  intro i
  have hl1 : (splice (mixP key nonce f b pre) (64 * pre.length) (xl ((b.drop (64 * pre.length)).take t) ((cblk key nonce (f + x)).take t))).length = b.length := by
    rw [splice_len _ _ _ (by rw [hz, mixP_len]; omega), mixP_len]
  by_cases hi : i < b.length
  · rw [mixP_at _ _ _ _ _ _ hi]
    unfold splice
    rw [hz]
    have htk : ((mixP key nonce f b pre).take (64 * pre.length)).length = 64 * pre.length := by rw [List.length_take, mixP_len]; omega
    by_cases h1 : i < 64 * pre.length
    · rw [List.getElem?_append_left (by rw [htk]; exact h1), List.getElem?_take_of_lt h1, mixP_at _ _ _ _ _ _ hi, if_pos h1, if_pos (by simp; omega)]
      have hd : i / 64 < pre.length := by omega
      simp [List.getD_eq_getElem?_getD, List.getElem?_append_left hd]
    · rw [List.getElem?_append_right (by rw [htk]; omega), htk]
      by_cases h2 : i < 64 * pre.length + t
      · rw [List.getElem?_append_left (by rw [hz]; omega), xl_take_at _ _ _ _ (by simp; omega) (by rw [cblk_len]; omega) (by omega), if_pos (by simp; omega)]
        have hd : i / 64 = pre.length := by omega
        have hr : i % 64 = i - 64 * pre.length := by omega
        rw [hd, hr]
        have e1 : (pre ++ [x]).getD pre.length 0 = x := by simp
        rw [e1, List.getElem_drop]
        have e2 : b.getD i 0 = b[i] := by simp [hi]
        have e3 : (cblk key nonce (f + x)).getD (i - 64 * pre.length) 0 = (cblk key nonce (f + x))[i - 64 * pre.length]'(by rw [cblk_len]; omega) := by
          have : i - 64 * pre.length < (cblk key nonce (f + x)).length := by rw [cblk_len]; omega
          simp [this]
        rw [e2, e3]
        simp only [show 64 * pre.length + (i - 64 * pre.length) = i by omega]
      · rw [List.getElem?_append_right (by rw [hz]; omega), hz, List.getElem?_drop, show 64 * pre.length + t + (i - 64 * pre.length - t) = i by omega, mixP_at _ _ _ _ _ _ hi, if_neg h1, if_neg (by simp; omega)]
  · rw [List.getElem?_eq_none (by rw [hl1]; omega), List.getElem?_eq_none (by rw [mixP_len]; omega)]

end Go.Proofs.YtlnoopmblmkgkaaGreatDoor

namespace Go.Proofs.YtlnoopmblmkgkaaGreatDoor
set_option maxRecDepth 100000
open Go.RowKit
set_option linter.unusedVariables false
set_option linter.unusedSimpArgs false
attribute [local go_sem] Oper.semAt_some

theorem exec_load_mid {P : Program} {a : Act} {o : Oper} (w : World) (ty : TypeId) (x : Operand) (ho : o.op = .load ty x) (b f : Nat) (hx : a.eval x = .pointer (some ⟨b, f, none⟩)) (cs : List Value) (d : TypeDesc) (hc : w.rangeAt b f cs)
    (hu : P.underlying ty = some d) (hd : d.isRow = true) (hi : (P.info? ty).map (·.size) = some cs.length) : (execOp a.eval o).run P w = .ok (.value (.agg cs.toArray)) w := by
  unfold execOp
  simp only [ho, hx, Instr.loadAt, Instr.sureAddr, Sem.run_bind, Sem.run_pure, Result.andThen_ok, run_loadVar_mid w b f ty cs d hc hu hd hi]

/-- How Mix's variables stand between two rounds. -/
structure MixI (key nonce : List UInt8) (f : Nat) (b : List UInt8) (A3 : Option Addr) (n c3 : Nat) (w : World) (gm go gd z : Nat) (pre : List Nat) (W : World) : Prop where
  le : 64 * pre.length ≤ n
  lt : pre = [] ∨ 64 * pre.length < n
  bb : Bl W w.heap.size [.slice A3 n c3] 22
  bm : Bl W gm (cb (mixP key nonce f b pre)) 5
  bo : Bl W go [.slice (some ⟨gm, 0, none⟩) n n] 22
  bd : Bl W gd [.int .i64 ((64 * pre.length : Nat) : Int)] 3
  sz : z ≤ W.heap.size
  below : Below w.heap.size w W

structure MixX (key nonce : List UInt8) (f : Nat) (b : List UInt8) (n : Nat) (w : World) (gm go : Nat) (c : Code) (pre : List Nat) (W : World) : Prop where
  code : c = .exit 0
  all : n ≤ 64 * pre.length
  bm : Bl W gm (cb (mixP key nonce f b pre)) 5
  bo : Bl W go [.slice (some ⟨gm, 0, none⟩) n n] 22
  below : Below w.heap.size w W

theorem mixI_own {key nonce : List UInt8} {f : Nat} {b : List UInt8} {A3 : Option Addr} {n c3 : Nat} {w : World} {gm go gd z B : Nat} (hB : w.heap.size ≤ B) : OwnFrom B (MixI key nonce f b A3 n c3 w gm go gd z) := fun _ _ _ _ hs hg hr =>
  ⟨hs.le, hs.lt, bl_abides hs.bb hg hr, bl_abides hs.bm hg hr, bl_abides hs.bo hg hr, bl_abides hs.bd hg hr, Nat.le_trans hs.sz hg.size, ownFrom_below (β := Unit) (Nat.le_refl _) hB () _ _ _ hs.below hg hr⟩
theorem mixX_own {key nonce : List UInt8} {f : Nat} {b : List UInt8} {n : Nat} {w : World} {gm go B : Nat} (hB : w.heap.size ≤ B) (c : Code) : OwnFrom B (MixX key nonce f b n w gm go c) := fun _ _ _ _ hs hg hr =>
  ⟨hs.code, hs.all, bl_abides hs.bm hg hr, bl_abides hs.bo hg hr, ownFrom_below (β := Unit) (Nat.le_refl _) hB () _ _ _ hs.below hg hr⟩

end Go.Proofs.YtlnoopmblmkgkaaGreatDoor

namespace Go.Proofs.YtlnoopmblmkgkaaGreatDoor
set_option maxRecDepth 100000
open Go.RowKit
set_option linter.unusedVariables false
set_option linter.unusedSimpArgs false
attribute [local go_sem] Oper.semAt_some

set_option maxRecDepth 100000 in
set_option maxHeartbeats 600000 in
theorem mix_main (key nonce b : List UInt8) (f : Nat) (A0 A1 A3 : Option Addr) (n c0 c1 c3 : Nat) (w : World) (hf : f < 4294967296) (h0 : Sl w w.heap.size A0 32 (cb key)) (h1 : Sl w w.heap.size A1 12 (cb nonce)) (h3 : Sl w w.heap.size A3 n (cb b)) (k0 : 32 ≤ c0) (k1 : 12 ≤ c1) (z0 : A0 = none → c0 = 0) (z1 : A1 = none → c1 = 0) (k3 : n ≤ c3) (z3 : A3 = none → c3 = 0) (hm : n ≤ 1000000000) (hcap : blksN n ≤ 4294967296 - f) (hT : TabC w) :
    Calls Tryz.prog 63 #[.slice A0 32 c0, .slice A1 12 c1, .int .u32 f, .slice A3 n c3] w (RetFill 5 w (mixL key nonce f b) 0) := by
  have hn3 : n = b.length := by rw [← h3.1, cb_len]
  have HN3 := Lib.hid hn3
  have HF : Hid (Calls Tryz.prog 96 #[.slice A0 32 c0, .slice A1 12 c1] (w.alloc (.cells #[.slice A3 n c3] 22)) fun e w' => e = .returned (.bool true) ∧ (w.alloc (.cells #[.slice A3 n c3] 22)) = w') := fit_any 32 12 c0 c1 A0 A1 _
  obtain ⟨k, hk⟩ : ∃ k, k = blksN n := ⟨_, rfl⟩
  have hbf := bfor_any n (w.alloc (.cells #[.slice A3 n c3] 22)) (by omega)
  rw [← hk] at hcap hbf
  have HB := Lib.hid hbf
  have HK := Lib.hid hk
  have hgt : ¬ (4294967295 : Int) - (f : Int) + 1 < (k : Int) := by omega
  have b0 := Bl.new w [.slice A3 n c3] 22
  have hb0 : Below w.heap.size w (w.alloc (.cells [Value.slice A3 n c3].toArray 22)) := (Below.refl _ w).alloc (Nat.le_refl _) _
  have HT := Lib.hid hT
  have hts := hT.size
  obtain ⟨i0, hi, hz0, hz1, hz2⟩ := info_parts u8_info
  clear hn3 hbf hk hT
  refine callsIn_wide.1 (callsIn_of_wp_marks (n := 3) Tryz.func63 rfl trivial (wpIn_wide.2 ?_) rfl)
  simp only [Tryz.ntmps63, List.size_toArray, List.length_cons, List.length_nil, Nat.reduceAdd, Nat.reduceSub, Array.replicate_succ, Array.replicate_zero, List.push_toArray, List.append_toArray, List.nil_append, List.cons_append]
  go_wp2_with fail
  refine HF.out.mono ?_
  rintro e w' ⟨rfl, rfl⟩
  go_wp2_with fail
  refine HB.out.mono ?_
  rintro e w' ⟨rfl, rfl⟩
  go_wp2_with (at_make; refine wpList_make_part _ rfl _ _ 22 rfl w.heap.size 5 i0 .u8 Tryz.underlying22 hi hz0 hz1 .i64 .i64 _ _ n n rfl rfl rfl rfl (Nat.le_refl _) (by rw [hz2]; omega) (by unfold maxLen; omega) (by simp) ?_; intro w1 hown hgrow)
  have hgw : w.heap.size + 1 < w1.heap.size := by
    have h1 := hgrow.size
    have h2 := (own_lt hown (g := (w.alloc (.cells #[.slice A3 n c3] 22)).heap.size) rfl)
    simpa using h2
  have bm1 : Bl w1 (w.heap.size + 1) (zeros .u8 n) 5 := by
    have := block_of_own hown
    rw [alloc_size] at this
    exact this
  have bb1 : Bl w1 w.heap.size [.slice A3 n c3] 22 := b0.grown hgrow (by simp)
  have hb1 : Below w.heap.size w w1 := hb0.trans ((Below.refl _ _).grown hgrow (by simp) (by simp))
  clear hown hgrow b0 hb0
  obtain ⟨gm, hgm⟩ : ∃ g, g = w.heap.size + 1 := ⟨_, rfl⟩
  obtain ⟨go, hgo⟩ : ∃ g, g = w1.heap.size := ⟨_, rfl⟩
  obtain ⟨gd, hgd⟩ : ∃ g, g = go + 1 := ⟨_, rfl⟩
  rw [← hgm] at bm1 ⊢
  rw [← hgo, ← hgd]
  have bo2 : Bl ((w1.alloc (.cells #[.slice (some ⟨gm, 0, none⟩) n n] 22)).alloc (.cells #[.int .i64 0] 3)) go [.slice (some ⟨gm, 0, none⟩) n n] 22 := by
    rw [hgo]; exact (Bl.new w1 [.slice (some ⟨gm, 0, none⟩) n n] 22).alloc _
  have bd2 : Bl ((w1.alloc (.cells #[.slice (some ⟨gm, 0, none⟩) n n] 22)).alloc (.cells #[.int .i64 0] 3)) gd [.int .i64 0] 3 := by
    have := Bl.new (w1.alloc (.cells #[.slice (some ⟨gm, 0, none⟩) n n] 22)) [.int .i64 0] 3
    rw [alloc_size, ← hgo, ← hgd] at this
    exact this
  have bm2 := (bm1.alloc (.cells #[.slice (some ⟨gm, 0, none⟩) n n] 22)).alloc (.cells #[.int .i64 0] 3)
  have bb2 := (bb1.alloc (.cells #[.slice (some ⟨gm, 0, none⟩) n n] 22)).alloc (.cells #[.int .i64 0] 3)
  have hb2 : Below w.heap.size w ((w1.alloc (.cells #[.slice (some ⟨gm, 0, none⟩) n n] 22)).alloc (.cells #[.int .i64 0] 3)) := (hb1.alloc (by omega) _).alloc (by simp; omega) _
  obtain ⟨W2, hW2⟩ : ∃ W, W = (w1.alloc (.cells #[.slice (some ⟨gm, 0, none⟩) n n] 22)).alloc (.cells #[.int .i64 0] 3) := ⟨_, rfl⟩
  rw [← hW2] at bo2 bd2 bm2 bb2 hb2 ⊢
  clear hW2 bm1 bb1 hb1
  refine (blocks_any key nonce f A0 A1 c0 c1 W2 (h0.nx hb2) (h1.nx hb2) k0 k1 z0 z1).mono ?_
  rintro e w3 ⟨gF, gS, rfl, hgF, hgS, bF, bS, hb3⟩
  have bo3 := bo2.next hb3
  have bd3 := bd2.next hb3
  have bm3 := bm2.next hb3
  have bb3 := bb2.next hb3
  have hd2 := bd2.lt
  have hd3 := bS.lt
  have hb4 := next hb2 hb3
  have hT3 := HT.out.next hb4
  clear bo2 bd2 bm2 bb2 hb2 hb3
  have hlt1 : w.heap.size < gm := by omega
  have hlt2 : gm < go := by omega
  have hlt3 : go < gd := by omega
  have hlt4 : gd < gS := by omega
  have HGM := Lib.hid hgm
  clear hgm hgo hgd hgw
  go_wp2
  refine wpIn_wide.1 (wpIn_rangeFunc_ownH (F := Fence.wide) (n := 3) rfl (by omega) (gf := 131) (lb := #[.pointer (some ⟨gF, 0, none⟩), .pointer (some ⟨gS, 0, none⟩)]) rfl trivial (enters_of Tryz.func131 (by kernel_rfl) rfl)
    (blocks2_stops key nonce f gF gS _ w3 hf bF bS hT3) keepsBl_t (keepsBl_b (fun g hg => by rcases hg with rfl | rfl <;> omega)) (Below.refl _ _) (fun _ => rfl)
    (MixI key nonce f b A3 n c3 w gm go gd w3.heap.size) (MixX key nonce f b n w gm go) (mixI_own (by omega)) (mixX_own (by omega))
    ⟨by simp, .inl rfl, bb3, by rw [mixP_nil, ← HN3.out]; exact bm3, bo3, bd3, Nat.le_refl _, hb4⟩
    (fun x a' W => ∃ Bx, w3.heap.size ≤ Bx ∧ Bl W Bx (cb (cblk key nonce (f + x))) 124 ∧ ∃ u0 u1 u2 u3 u4 u5 u6 u8 u9 u12 u14 u15 u16 u17 u18 u19 u20 u21 u22 u23 u24 u25 u26 u27 u28 u29 u30 u31 u32 u33 u34 u35 u36 u37 u38 u39 u40 u41 u42 u43 u44 u45 u46 u47 u48 u49 : Value, a' = { tmps := #[u0, u1, u2, u3, u4, u5, u6, .pointer (some ⟨w.heap.size, 0, none⟩), u8, u9, .pointer (some ⟨go, 0, none⟩), .pointer (some ⟨gd, 0, none⟩), u12, .pointer (some ⟨Bx, 0, none⟩), u14, u15, u16, u17, u18, u19, u20, u21, u22, u23, u24, u25, u26, u27, u28, u29, u30, u31, u32, u33, u34, u35, u36, u37, u38, u39, u40, u41, u42, u43, u44, u45, u46, u47, u48, u49], defers := [] })
    (fun x a' _ _ _ _ hs hg hr => by obtain ⟨Bx, h1, h2, h3⟩ := hs; exact ⟨Bx, h1, bl_abides h2 hg hr, h3⟩) ?assign ?body ?done ?stop)
  case assign =>
    intro l pre x W K hI hK
    dsimp only [bencs]
    obtain ⟨B, hB⟩ : ∃ B, B = cblk key nonce (f + x) := ⟨_, rfl⟩
    rw [← hB] at hK ⊢
    have HBL : Hid (B.length = 64) := by unfold Hid; rw [hB, cblk_len]
    have HK2 := Lib.hid hK
    clear hB hK
    obtain ⟨bB, hbB, hzB⟩ := put_new W (zeros .u8 64) (cb B) 124 (by rw [cb_len, HBL.out, zeros_len])
    have HST : Hid ((storeCells ⟨W.heap.size, 0, none⟩ (cb B)).run Tryz.prog (W.alloc (.cells (zeros .u8 64).toArray 124)) = .ok () ((W.alloc (.cells (zeros .u8 64).toArray 124)).setCells W.heap.size 0 (cb B))) := by
      have hth := (Bl.new W (zeros .u8 64) 124).there_ (o := 0) (n := 64) (by simp [zeros])
      exact run_storeCells_cells W.heap.size 0 (cb B) 0 _ (fun j hj => (hth j (by rw [cb_len, HBL.out] at hj; exact hj)).1) (fun j hj => (hth j (by rw [cb_len, HBL.out] at hj; exact hj)).2) (cb_one _)
    have hcl : (cb B).length = 64 := by rw [cb_len, HBL.out]
    gi_wp2_with (first
      | (refine wpListIn_of_one (wide_round l) (by rintro ⟨a', w', h⟩; exact h) (by intro c h; cases h) rfl ?_; refine wpList_alloc_zero rfl 124 rfl (zeros .u8 64) zero_block ?_; change wpListIn _ _ _ _ _ _ _ _)
      | fail)
    rw [HST.out]
    gi_wp2
    have hlS : gS < W.heap.size := Nat.lt_of_lt_of_le hd3 hI.sz
    refine HK2.out _ _ (KeepsFrom.of_grownBy (grown_below hbB none) (by simp)) (fun g hg => hbB.block g (by rcases hg with rfl | rfl <;> omega))
      ⟨hI.le, hI.lt, hI.bb.next hbB, hI.bm.next hbB, hI.bo.next hbB, hI.bd.next hbB, Nat.le_trans hI.sz hbB.size, next hI.below hbB⟩ ⟨W.heap.size, hI.sz, bB, _, _, _, _, _, _, _, _, _, _, _, _, _, _, _, _, _, _, _, _, _, _, _, _, _, _, _, _, _, _, _, _, _, _, _, _, _, _, _, _, _, _, _, _, _, _, rfl⟩
  case body =>
    rintro l pre x a' W hl hrec hI ⟨Bx, hBx, bB, u0, u1, u2, u3, u4, u5, u6, u8, u9, u12, u14, u15, u16, u17, u18, u19, u20, u21, u22, u23, u24, u25, u26, u27, u28, u29, u30, u31, u32, u33, u34, u35, u36, u37, u38, u39, u40, u41, u42, u43, u44, u45, u46, u47, u48, u49, rfl⟩ hpre
    obtain ⟨le, lt, bb, bm, bo, bd, sz, hbl⟩ := hI
    obtain ⟨B, hB⟩ : ∃ B, B = cblk key nonce (f + x) := ⟨_, rfl⟩
    rw [← hB] at bB
    have HBL : Hid (B.length = 64) := by unfold Hid; rw [hB, cblk_len]
    obtain ⟨L, hL⟩ : ∃ L, L = 64 * pre.length := ⟨_, rfl⟩
    rw [← hL] at le bd
    have hL0 : L = 0 ∨ L < n := lt.elim (fun h => .inl (by rw [hL, h]; rfl)) (fun h => .inr (by rw [hL]; exact h))
    obtain ⟨t, ht⟩ : ∃ t, t = min (n - L) 64 := ⟨_, rfl⟩
    obtain ⟨M, hM⟩ : ∃ M, M = mixP key nonce f b pre := ⟨_, rfl⟩
    have HML : Hid (M.length = n) := by unfold Hid; rw [hM, mixP_len, HN3.out]
    have HNX : Hid (splice (cb M) L (cb (xl ((b.drop L).take t) (B.take t))) = cb (mixP key nonce f b (pre ++ [x]))) := by
      unfold Hid; rw [hM, hL, hB]; exact mixP_next key nonce f b pre x t (by rw [← HN3.out, ← hL]; exact le) (by rw [ht, HN3.out, hL])
    rw [← hM] at bm
    obtain ⟨A', hA'⟩ : ∃ A', A' = if c3 = L then A3 else A3.map (·.add L) := ⟨_, rfl⟩
    have HA' := Lib.hid hA'
    have HAo : Hid (some (⟨gm, L, none⟩ : Addr) = if n = L then some (⟨gm, 0, none⟩ : Addr) else (some (⟨gm, 0, none⟩ : Addr)).map (·.add L)) := by
      unfold Hid
      rcases hL0 with h | h
      · subst h
        split <;> simp [Addr.add]
      · rw [if_neg (by omega)]
        simp [Addr.add_mid]
    have HT2 := Lib.hid ht
    have HL := Lib.hid hL
    have hsl : Sl W.drew w.heap.size A' (n - L) (cb (b.drop L)) := by
      have := sl_cut (k := L) (show Sl W.drew w.heap.size A3 n (cb b) from (h3.below hbl).map_ (fun _ _ => rfl)) le k3
      rw [← hA'] at this
      simpa [cb] using this
    have hoff : Off gm (n - L) A' := hsl.off (by omega)
    have htn : t ≤ n - L := by omega
    have ht64 : t ≤ 64 := by omega
    obtain ⟨S, hSd⟩ : ∃ S : World → Prop, S = fun w' => Bl w' gd [.int .i64 (L : Int)] 3 ∧ Bl w' go [.slice (some ⟨gm, 0, none⟩) n n] 22 ∧ Bl w' w.heap.size [.slice A3 n c3] 22 ∧ Bl w' Bx (cb B) 124 := ⟨_, rfl⟩
    have hS : S W.drew := by rw [hSd]; exact ⟨bd.drew, bo.drew, bb.drew, bB.drew⟩
    have HSn : Hid (∀ w', W.drew.grownBy w' (some gm) → S w') := by
      unfold Hid; intro w' hg; rw [hSd]
      exact ⟨bd.drew.grown hg (by simp; omega), bo.drew.grown hg (by simp; omega), bb.drew.grown hg (by simp; omega), bB.drew.grown hg (by simp; omega)⟩
    have HSd : Hid (∀ w', S w' → w'.cell? ⟨gd, 0, none⟩ = some (.int .i64 (L : Int))) := by unfold Hid; intro w' h; rw [hSd] at h; exact h.1.cell 0
    have HSo : Hid (∀ w', S w' → w'.cell? ⟨go, 0, none⟩ = some (.slice (some ⟨gm, 0, none⟩) n n)) := by unfold Hid; intro w' h; rw [hSd] at h; exact h.2.1.cell 0
    have HSb : Hid (∀ w', S w' → w'.cell? ⟨w.heap.size, 0, none⟩ = some (.slice A3 n c3)) := by unfold Hid; intro w' h; rw [hSd] at h; exact h.2.2.1.cell 0
    have HSB : Hid (∀ w', S w' → w'.rangeAt Bx 0 (cb B)) := by unfold Hid; intro w' h; rw [hSd] at h; exact h.2.2.2.whole
    have HBM := Lib.hid bm
    have HBD := Lib.hid bd
    have HBO := Lib.hid bo
    have HBB := Lib.hid bb
    have HSL := Lib.hid hsl
    clear hB hL ht hM hA' hSd lt bm bd bo bb bB hsl
    refine wpIn_block ?_
    refine wpIn_seq ?_
    refine wpIn_region_plain (wide_round l) (by rintro ⟨a', w', h⟩; exact h) (by kernel_rfl) (by kernel_rfl) ?_
    refine wpAny_of_K (S := S) (K := 10) _ _ _ _ ?_
    refine wpAnyK_take (i := 0) (v := (.int .i64 (L : Int))) rfl (by kernel_rfl) (by kernel_rfl) (by kernel_rfl) (by kernel_rfl) (fun _ _ _ h => h) (Or.inl ⟨by rfl, fun w9 hw9 => by have hq9 := HSd.out w9 hw9; go_simp⟩) hS ?_
    simp only [List.getElem_toArray, List.getElem_cons_succ, List.getElem_cons_zero, Act.put, List.setIfInBounds_toArray, List.set_cons_zero, List.set_cons_succ]
    refine wpAnyK_take (i := 1) (v := (.slice (some ⟨gm, 0, none⟩) n n)) rfl (by kernel_rfl) (by kernel_rfl) (by kernel_rfl) (by kernel_rfl) (fun _ _ _ h => h) (Or.inl ⟨by rfl, fun w9 hw9 => by have hq9 := HSo.out w9 hw9; go_simp⟩) hS ?_
    simp only [List.getElem_toArray, List.getElem_cons_succ, List.getElem_cons_zero, Act.put, List.setIfInBounds_toArray, List.set_cons_zero, List.set_cons_succ]
    refine wpAnyK_take (i := 2) (v := (.int .i64 (L : Int))) rfl (by kernel_rfl) (by kernel_rfl) (by kernel_rfl) (by kernel_rfl) (fun _ _ _ h => h) (Or.inl ⟨by rfl, fun w9 hw9 => by have hq9 := HSd.out w9 hw9; go_simp⟩) hS ?_
    simp only [List.getElem_toArray, List.getElem_cons_succ, List.getElem_cons_zero, Act.put, List.setIfInBounds_toArray, List.set_cons_zero, List.set_cons_succ]
    refine wpAnyK_take (i := 4) (v := (.slice A3 n c3)) rfl (by kernel_rfl) (by kernel_rfl) (by kernel_rfl) (by kernel_rfl) (fun _ _ _ h => h) (Or.inl ⟨by rfl, fun w9 hw9 => by have hq9 := HSb.out w9 hw9; go_simp⟩) hS ?_
    simp only [List.getElem_toArray, List.getElem_cons_succ, List.getElem_cons_zero, Act.put, List.setIfInBounds_toArray, List.set_cons_zero, List.set_cons_succ]
    refine wpAnyK_take (i := 5) (v := (.int .i64 (L : Int))) rfl (by kernel_rfl) (by kernel_rfl) (by kernel_rfl) (by kernel_rfl) (fun _ _ _ h => h) (Or.inl ⟨by rfl, fun w9 hw9 => by have hq9 := HSd.out w9 hw9; go_simp⟩) hS ?_
    simp only [List.getElem_toArray, List.getElem_cons_succ, List.getElem_cons_zero, Act.put, List.setIfInBounds_toArray, List.set_cons_zero, List.set_cons_succ]
    refine wpAnyK_take (i := 7) (v := .agg (cb B).toArray) rfl (by kernel_rfl) (by kernel_rfl) (by kernel_rfl) (by kernel_rfl) (fun _ _ _ h => h) (Or.inl ⟨by rfl, fun w9 hw9 => exec_load_mid w9 124 _ rfl Bx 0 rfl (cb B) _ (HSB.out w9 hw9) Tryz.underlying124 rfl (by rw [size_block, cb_len, HBL.out])⟩) hS ?_
    simp only [List.getElem_toArray, List.getElem_cons_succ, List.getElem_cons_zero, Act.put, List.setIfInBounds_toArray, List.set_cons_zero, List.set_cons_succ]
    refine wpAnyK_take0 (i := 3) (v := .slice (some ⟨gm, L, none⟩) (n - L) (n - L)) rfl (by kernel_rfl) (by kernel_rfl) (by kernel_rfl) (by kernel_rfl) (fun _ _ _ h => h) (Or.inl ⟨by rfl, fun w9 => exec_slice_from w9 22 5 _ _ rfl Tryz.underlying22 u8_size (some ⟨gm, 0, none⟩) n n L .i64 _ rfl rfl rfl le (Nat.le_refl _) (by intro h; cases h) _ HAo.out⟩) hS ?_
    simp only [List.getElem_toArray, List.getElem_cons_succ, List.getElem_cons_zero, Act.put, List.setIfInBounds_toArray, List.set_cons_zero, List.set_cons_succ]
    refine wpAnyK_take0 (i := 6) (v := .slice A' (n - L) (c3 - L)) rfl (by kernel_rfl) (by kernel_rfl) (by kernel_rfl) (by kernel_rfl) (fun _ _ _ h => h) (Or.inl ⟨by rfl, fun w9 => exec_slice_from w9 22 5 _ _ rfl Tryz.underlying22 u8_size A3 n c3 L .i64 _ rfl rfl rfl le k3 z3 _ HA'.out⟩) hS ?_
    simp only [List.getElem_toArray, List.getElem_cons_succ, List.getElem_cons_zero, Act.put, List.setIfInBounds_toArray, List.set_cons_zero, List.set_cons_succ]
    refine wpAnyK_one (i := 8) (by kernel_rfl) rfl (by decide) (by rfl) (fun K hK => ?_)
    simp only [List.getElem_toArray, List.getElem_cons_succ, List.getElem_cons_zero, Act.put, List.setIfInBounds_toArray, List.set_cons_zero, List.set_cons_succ]
    go_simp
    refine (mixb_any gm L (n - L) (n - L) (cb M) 5 (b.drop L) B A' (n - L) (c3 - L) w.heap.size t _ HBM.out.drew (by rw [cb_len, HML.out]; omega) HSL.out (by have := hbl.size; simp; omega) hoff HBL.out (Nat.le_refl _) (by omega) HT2.out).mono ?_
    rintro e w4 ⟨rfl, bm4, hg4⟩
    rw [HNX.out] at bm4
    replace hS := HSn.out _ hg4
    refine hK.out _ _ hS ?_
    clear hK K
    refine wpAnyK_take0 (i := 9) (v := (.int .i64 ((L : Int) + (t : Int)))) rfl (by kernel_rfl) (by kernel_rfl) (by kernel_rfl) (by kernel_rfl) (fun _ _ _ h => h) (Or.inl ⟨by rfl, fun _ => by go_simp; exact IntWalk.i64_in _ (by omega)⟩) hS ?_
    simp only [List.getElem_toArray, List.getElem_cons_succ, List.getElem_cons_zero, Act.put, List.setIfInBounds_toArray, List.set_cons_zero, List.set_cons_succ]
    have bd4 := HBD.out.drew.grown hg4 (by simp; omega)
    have bo4 := HBO.out.drew.grown hg4 (by simp; omega)
    have bb4 := HBB.out.drew.grown hg4 (by simp; omega)
    have hc4 := bd4.cell 0
    have hc4' : w4.cell? ⟨gd, 0, none⟩ = some (.int .i64 (L : Int)) := hc4
    have hf4 := bd4.frozen 0
    have hbl4 : Below w.heap.size w w4 := below_but hbl.drew hg4 (by have := hbl.size; simp; omega) (by omega)
    refine wpAnyK_K (by kernel_rfl) rfl (by rfl) (fun K hK => ?_)
    simp only [List.getElem_toArray, List.getElem_cons_succ, List.getElem_cons_zero, Act.put, List.setIfInBounds_toArray, List.set_cons_zero, List.set_cons_succ]
    go_simp
    refine hK.out _ _ ?_
    clear hK K hc4 hc4' hf4
    obtain ⟨W5, hW5⟩ : ∃ W, W = w4.setCell ⟨gd, 0, none⟩ (.int .i64 ((L : Int) + (t : Int))) := ⟨_, rfl⟩
    have bd5 := bd4.set 0 (.int .i64 ((L : Int) + (t : Int)))
    have bo5 := bo4.set_other ⟨gd, 0, none⟩ (.int .i64 ((L : Int) + (t : Int))) (by simp; omega)
    have bb5 := bb4.set_other ⟨gd, 0, none⟩ (.int .i64 ((L : Int) + (t : Int))) (by simp; omega)
    have bm5 := bm4.set_other ⟨gd, 0, none⟩ (.int .i64 ((L : Int) + (t : Int))) (by simp; omega)
    have hbl5 := hbl4.setCell (p := ⟨gd, 0, none⟩) (show w.heap.size ≤ gd by omega) (.int .i64 ((L : Int) + (t : Int)))
    have hg5 : w4.grownBy (w4.setCell ⟨gd, 0, none⟩ (.int .i64 ((L : Int) + (t : Int)))) (some gd) := but_setCell (but_refl w4 gd) 0 _
    rw [← hW5] at bd5 bo5 bb5 bm5 hbl5 hg5 ⊢
    have hkf : KeepsFrom w3.heap.size W W5 := ((KeepsOthers.drew W).from _).trans ((KeepsFrom.of_grownBy hg4 (fun j e => by cases e; omega)).trans (KeepsFrom.of_grownBy hg5 (fun j e => by cases e; omega)))
    have hlS : gS < W.heap.size := Nat.lt_of_lt_of_le hd3 sz
    have hkb : KeepsBl (bkeep gS) W W5 := fun g hg => by
      have h1 : g ≠ gm ∧ g ≠ gd ∧ g < W.heap.size := by rcases hg with rfl | rfl <;> omega
      have h2 : w4.heap[g]? = W.heap[g]? := hg4.block g h1.2.2 (by simp; exact h1.1)
      exact (hg5.block g (Nat.lt_of_lt_of_le h1.2.2 hg4.size) (by simp; exact h1.2.1)).trans h2
    have hz5 : w3.heap.size ≤ W5.heap.size := Nat.le_trans sz (Nat.le_trans hg4.size hg5.size)
    have hcd : W5.cell? ⟨gd, 0, none⟩ = some (.int .i64 ((L : Int) + (t : Int))) := bd5.cell 0
    have hcb : W5.cell? ⟨w.heap.size, 0, none⟩ = some (.slice A3 n c3) := bb5.cell 0
    have HPL : Hid ((pre ++ [x]).length = pre.length + 1) := by unfold Hid; simp
    clear hW5 bd4 bo4 bb4 bm4 hbl4 hg4 hg5 hS HSn HSd HSo HSb HSB
    refine wpAny_done (by kernel_rfl) ?_ _
    change Code.wpIn _ _ _ _ _ _ _
    by_cases hend : L + t = n
    · have hq : ((L : Int) + (t : Int) == (n : Int)) = true := by simp; omega
      gi_wp2
      exact ⟨hkf, rfl, by rw [HPL.out]; have := HL.out; omega, bm5, bo5, hbl5⟩
    · have hq : ((L : Int) + (t : Int) == (n : Int)) = false := by simp; omega
      have ht6 : t = 64 := by have := HT2.out; omega
      gi_wp2
      refine ⟨hkf, hkb, by rw [HPL.out]; have := HL.out; omega, .inr (by rw [HPL.out]; have := HL.out; omega), bb5, bm5, bo5, ?_, hz5, hbl5⟩
      have e : ((64 * (pre ++ [x]).length : Nat) : Int) = (L : Int) + (t : Int) := by rw [HPL.out]; have := HL.out; omega
      rw [e]
      exact bd5
  case done =>
    rintro D xs W hD rfl hI hK
    exfalso
    have h1 := hI.lt
    rw [List.length_range] at h1
    have h2 := HK.out
    unfold blksN at h2
    rcases h1 with h1 | h1
    · have := congrArg List.length h1
      rw [List.length_range] at this
      simp at this
      omega
    · omega
  case stop =>
    rintro D c pre W hD ⟨j, rfl⟩ hX hK
    obtain ⟨rfl, hall, bm, bo, hbl⟩ := hX
    rw [mixP_all _ _ _ _ _ (by rw [← HN3.out]; simpa using hall)] at bm
    have hc := bo.cell 0
    have hc' : W.cell? ⟨go, 0, none⟩ = some (.slice (some ⟨gm, 0, none⟩) n n) := hc
    clear hc
    have hmD : gm ≠ D := by omega
    refine wpIn_wide.2 ?_
    go_wp2
    refine ⟨by simp, .inl ⟨_, _, rfl, run_takeDeferred hK, ?_⟩⟩
    refine ⟨_, results_tmp2 rfl _ _ _, ?_⟩
    have bm5 : Bl (W.putObj D (.deferred none)) gm (cb (mixL key nonce f b)) 5 := bm.keep (World.putObj_heap_other hmD)
    have hbl5 : Below w.heap.size w (W.putObj D (.deferred none)) := hbl.trans (belowK_b (w := w) (Nat.le_refl _) W D _ _ (by omega) hK rfl rfl)
    exact ⟨_, n, n, rfl, own_of_block bm5 (Nat.le_of_lt hlt1) (by rw [cb_len, mixL_len, HN3.out]) (by unfold maxLen; omega), hbl5⟩

end Go.Proofs.YtlnoopmblmkgkaaGreatDoor
