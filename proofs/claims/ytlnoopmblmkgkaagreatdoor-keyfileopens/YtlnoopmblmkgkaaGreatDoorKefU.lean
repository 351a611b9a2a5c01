/- Layer 11, keyfile: what the walks of the laws over an Ask share. -/
import Derived.Test.YtlnoopmblmkgkaaGreatDoorKefZ
import Derived.Test.YtlnoopmblmkgkaaGreatDoorKefX
namespace Go.Proofs.YtlnoopmblmkgkaaGreatDoor
set_option maxRecDepth 100000
open Go Go.RowKit
set_option linter.unusedVariables false
set_option linter.unusedSimpArgs false

theorem size_ka : (Tryz.prog.info? 26).map (·.size) = some 8 := by kernel_rfl
theorem InPairs.nx {w w' : World} {A : Option Addr} {n c : Nat} {ds : List (Int × List UInt8)} (h : InPairs w A n c ds) (hb : Below w.heap.size w w') : InPairs w' A n c ds :=
  ⟨fun j hj => by
    obtain ⟨ad, e, hp⟩ := h.at_ j hj
    obtain ⟨a1, a2, M, c', a3, a4, a5, a6⟩ := hp.below hb
    exact ⟨ad, e, a1, Nat.lt_of_lt_of_le a2 hb.size, M, c', a3, a4, a5.up hb.size, a6⟩, h.len, h.cap, h.none_⟩
/-- Bytes do not lie where a file lies. -/
theorem off_file {w : World} {g : Nat} {t : TypeId} {A : Option Addr} {n c : Nat} {l : List UInt8} (hb : Bl w g nilF t) (hy : By w A n c l) : Off g n A := by
  intro hn ad e hg
  subst e
  obtain ⟨ad', e', _, hcl⟩ := hy.sl.2 hn
  injection e' with e'
  subst e'
  have hl := hy.len
  have h0 := hcl 0 (.int .u8 (l[0]'(by omega)).toNat) (by rw [cb, List.getElem?_map, List.getElem?_eq_getElem (by omega)]; rfl)
  rw [add_none] at h0
  obtain ⟨b, o, s⟩ := ad
  simp only at hg
  subst hg
  have hbb := hb
  cases s with
  | some k => unfold World.cell? at h0; split at h0 <;> simp at h0
  | none =>
  rw [hb.cell o] at h0
  match o, h0 with
  | 0, h0 => simp [nilF, fC] at h0
  | 1, h0 => simp [nilF, fC] at h0
  | 2, h0 => simp [nilF, fC] at h0
  | 3, h0 => simp [nilF, fC] at h0
  | o + 4, h0 => simp [nilF, fC] at h0

end Go.Proofs.YtlnoopmblmkgkaaGreatDoor
