/- Of of package digest, and what a nil State does. -/
import Derived.Test.YtfmbilnbbpbpeaaDoorDigF
namespace Go.Proofs.YtfmbilnbbpbpeaaDoor
open Go.RowKit

/-- A slice value that reads as bytes. -/
def PartOk (w : World) (B : Nat) (v : Value) (l : List UInt8) : Prop := ∃ A c, v = .slice A l.length c ∧ Sl w B A l.length (cb l) ∧ l.length ≤ c ∧ (A = none → c = 0)
/-- A slice of slices of bytes. -/
def Parts (w : World) (B : Nat) (A : Option Addr) (n : Nat) (ls : List (List UInt8)) : Prop := ∃ vs, Sl w B A n vs ∧ vs.length = ls.length ∧ ∀ j (h : j < ls.length), ∃ v, vs[j]? = some v ∧ PartOk w B v ls[j]
theorem Parts.below {w w' : World} {B n : Nat} {A : Option Addr} {ls : List (List UInt8)} (h : Parts w B A n ls) (hb : Below B w w') : Parts w' B A n ls := by
  obtain ⟨vs, h1, h2, h3⟩ := h
  refine ⟨vs, h1.below hb, h2, fun j hj => ?_⟩
  obtain ⟨v, hv, A', c', e, hs, hc⟩ := h3 j hj
  exact ⟨v, hv, A', c', e, hs.below hb, hc⟩
theorem Parts.len {w : World} {B n : Nat} {A : Option Addr} {ls : List (List UInt8)} (h : Parts w B A n ls) : n = ls.length := by
  obtain ⟨vs, h1, h2, _⟩ := h
  rw [← h1.1, h2]
theorem Parts.at_ {w : World} {B n : Nat} {A : Option Addr} {ls : List (List UInt8)} (h : Parts w B A n ls) {j : Nat} (hj : j < ls.length) :
    ∃ ad A' c', A = some ad ∧ w.cell? (ad.add j) = some (.slice A' ls[j].length c') ∧ Sl w B A' ls[j].length (cb ls[j]) ∧ ls[j].length ≤ c' ∧ (A' = none → c' = 0) := by
  have hn := h.len
  obtain ⟨vs, h1, h2, h3⟩ := h
  obtain ⟨v, hv, A', c', rfl, hs, hc, hz⟩ := h3 j hj
  obtain ⟨ad, e, _, hcell⟩ := h1.2 (by omega)
  exact ⟨ad, A', c', e, hcell j _ hv, hs, hc, hz⟩
theorem flat_take (ls : List (List UInt8)) (k : Nat) (h : k < ls.length) : (ls.take (k + 1)).flatten = (ls.take k).flatten ++ ls[k] := by
  rw [List.take_succ_eq_append_getElem h, List.flatten_append]
  simp
theorem flat_le (ls : List (List UInt8)) (k : Nat) : (ls.take k).flatten.length ≤ ls.flatten.length := by
  conv => rhs; rw [← List.take_append_drop k ls, List.flatten_append]
  simp

set_option maxHeartbeats 600000 in
theorem of_any (ls : List (List UInt8)) (w : World) (B : Nat) (A : Option Addr) (n c : Nat) (hp : Parts w B A n ls) (hB : B ≤ w.heap.size) (hn : n ≤ 1000000000) (hT : Tabs w) (hm : ls.flatten.length ≤ 100000000) :
    Calls Tryd.prog 25 #[.slice A n c] w fun e w' => e = .returned (.agg (cb (sha ls.flatten)).toArray) ∧ Below w.heap.size w w' := by
  have HSHL := Lib.hid (sha_len ls.flatten)
  have hpl := hp.len
  subst hpl
  have HTT := Lib.hid hT
  clear hT
  go_enter Tryd.func25, Tryd.ntmps25
  go_wp2_with (refine wpList_alloc_zero rfl 49 rfl (zeros .u8 32) zero_sum ?_)
  refine (new_any _ (HTT.out.alloc _)).mono ?_
  rintro e w1 ⟨gs, rfl, hgs, hst, hb1⟩
  have hgs' : w.heap.size + 1 ≤ gs := by simpa using hgs
  have b0 := (Bl.new w (zeros .u8 32) 49).next hb1
  have hb0 : Below w.heap.size w w1 := ((Below.refl _ w).alloc (Nat.le_refl _) _).trans (hb1.mono (by simp))
  have hT1 := HTT.out.next hb0
  have h2g : 2 ≤ gs := by have := HTT.out.size; omega
  clear hb1 hgs
  go_wp2
  go_loopw [9] (fun i wr => ∃ k : Nat, k ≤ ls.length ∧ i = .int .i64 k ∧ St wr gs (ls.take k).flatten ∧ Bl wr w.heap.size (zeros .u8 32) 49 ∧ Below w.heap.size w wr ∧ Tabs wr) (fun i _ => ls.length - (intOf i).toNat)
  case atStart => exact ⟨0, by omega, rfl, hst, b0, hb0, hT1⟩
  case round =>
    clear hst b0 hb0 hT1
    obtain ⟨k, hk, rfl, hst, b0, hb, hT1⟩ := hrel
    by_cases hlt : k < ls.length
    · have hp2 := hp.below (hb.mono hB)
      obtain ⟨ad, A', c', rfl, hcell, hsl, hcc, hnn⟩ := hp2.at_ hlt
      have hfl := flat_take ls k hlt
      have hle := flat_le ls (k + 1)
      rw [hfl, List.length_append] at hle
      have hbs := hb.size
      have HF := Lib.hid hfl
      clear hp2 hfl
      go_wp2_with fail
      refine (add_any gs (ls.take k).flatten ls[k] _ _ A' _ c' hst hsl (by omega) (hsl.off (by omega)) hcc hnn hT1 h2g (by omega)).mono ?_
      rintro e w2 ⟨rfl, hst2, hg2, hT2⟩
      have b02 := b0.grown hg2 (by simp; omega)
      have hb2 := below_but hb hg2 hbs (by omega)
      rw [← HF.out] at hst2
      clear hst hsl hT1 b0 hb hg2
      go_wp2
      go_roundw
      case rel => exact ⟨k + 1, by omega, by go_num, hst2, b02, hb2, hT2⟩
      case measure => simp [intOf]; omega
    · have HK : Hid (k = ls.length) := (by omega : k = ls.length)
      rw [HK.out, List.take_length] at hst
      go_wp2_with fail
      refine (sum_any gs ls.flatten _ hst hT1 hm).mono ?_
      rintro e w2 ⟨rfl, hb2⟩
      have b02 := b0.next hb2
      have hb3 := hb.trans (hb2.mono hb.size)
      go_wp2_with (refine wpList_store_mid rfl 49 _ _ rfl _ _ (cb (sha ls.flatten)).toArray rfl rfl (b02.there_ (by simp [zeros, cb_len, HSHL.out])) (by rw [size_sum, List.size_toArray, cb_len, HSHL.out]) (all_oneCell_toArray (cb_one _)) ?_)
      have hc := b02.over (vs := cb (sha ls.flatten)) (by rw [cb_len, HSHL.out, zeros_len])
      exact ret_row Tryd.results25 rfl hc Tryd.underlying49 rfl (by rw [size_sum, cb_len, HSHL.out]) rfl ⟨rfl, below_setCells hb3 (Nat.le_refl _) _ _⟩

theorem add_nil (v : Value) (w : World) : Calls Tryd.prog 27 #[.pointer none, v] w fun e w' => e = .returned (.tuple #[]) ∧ w = w' := by
  go_enter Tryd.func27, Tryd.ntmps27
  go_wp2
  exact bodyPost_ret (results_none rfl _ _ _) rfl ⟨rfl, rfl⟩

theorem sum_nil (w : World) (hT : Tabs w) : Calls Tryd.prog 30 #[.pointer none] w fun e w' => e = .returned (.agg (cb (sha [])).toArray) ∧ Below w.heap.size w w' := by
  have HSHL := Lib.hid (sha_len [])
  have HTT := Lib.hid hT
  clear hT
  go_enter Tryd.func30, Tryd.ntmps30
  go_wp2_with (refine wpList_alloc_zero rfl 49 rfl (zeros .u8 32) zero_sum ?_)
  refine (of_any [] _ 0 none 0 0 ⟨[], Sl.nil_, rfl, fun j h => absurd h (by simp)⟩ (Nat.zero_le _) (by omega) (HTT.out.alloc _) (by simp)).mono ?_
  rintro e w1 ⟨rfl, hb1⟩
  rw [List.flatten_nil]
  have b0 := (Bl.new w (zeros .u8 32) 49).next hb1
  have hb0 : Below w.heap.size w w1 := ((Below.refl _ w).alloc (Nat.le_refl _) _).trans (hb1.mono (by simp))
  clear hb1
  obtain ⟨S, hS⟩ : ∃ S, S = sha [] := ⟨_, rfl⟩
  rw [← hS] at HSHL ⊢
  have HS := Lib.hid hS
  clear hS
  go_wp2_with (refine wpList_store_mid rfl 49 _ _ rfl _ _ (cb S).toArray rfl rfl (b0.there_ (by simp [zeros, cb_len, HSHL.out])) (by rw [size_sum, List.size_toArray, cb_len, HSHL.out]) (all_oneCell_toArray (cb_one _)) ?_)
  have hc := b0.over (vs := cb S) (by rw [cb_len, HSHL.out, zeros_len])
  exact ret_row Tryd.results30 rfl hc Tryd.underlying49 rfl (by rw [size_sum, cb_len, HSHL.out]) rfl ⟨by rw [HS.out], below_setCells hb0 (Nat.le_refl _) _ _⟩

end Go.Proofs.YtfmbilnbbpbpeaaDoor

