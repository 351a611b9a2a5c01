/- Layer 11, keyfile: rings that have the same masters; what Make and Open tell, as lists of bytes. No function of the program is walked here. -/
import Derived.Test.YtlnoopmblmkgkaaGreatDoorKefQ
import Derived.Test.YtlnoopmblmkgkaaGreatDoorLJ
import Derived.Test.YtlnoopmblmkgkaaGreatDoorLB
import Derived.Test.YtlnoopmblmkgkaaGreatDoorLS
namespace Go.Proofs.YtlnoopmblmkgkaaGreatDoor
set_option maxRecDepth 100000
open Go Go.RowKit
set_option linter.unusedVariables false
set_option linter.unusedSimpArgs false

/-- Two rings have the same masters. -/
def SameR (m m' : RM) : Prop := ∀ e, rfind m e = rfind m' e
theorem SameR.symm {m m' : RM} (h : SameR m m') : SameR m' m := fun e => (h e).symm
theorem sortR_same {m : RM} (ok : RingOk m) : SameR (sortR m) m := rfind_sortR ok
theorem same_mem {m m' : RM} (ok : RingOk m) (h : SameR m m') {x : Nat × List UInt8} (hx : x ∈ m) : ∃ y ∈ m', y.1 = x.1 := by
  have h1 := rfind_mem ok hx
  rw [h] at h1
  obtain ⟨y, hy, he, _⟩ := rfind_some h1
  exact ⟨y, hy, by omega⟩
theorem same_last {m m' : RM} (ok : RingOk m) (ok' : RingOk m') (h : SameR m m') {L L' : Int} (hL : IsLast m L) (hL' : IsLast m' L') : L = L' := by
  refine last_one hL ⟨fun x hx => ?_, ?_⟩
  · obtain ⟨y, hy, e⟩ := same_mem ok h hx
    rw [← e]; exact hL'.1 y hy
  · rcases hL'.2 with h0 | ⟨y, hy, e⟩
    · exact .inl h0
    · obtain ⟨x, hx, e2⟩ := same_mem ok' h.symm hy
      exact .inr ⟨x, hx, by rw [e2]; exact e⟩
theorem same_epochs {m m' : RM} (h : SameR m m') : repochs m = repochs m' := by
  unfold repochs
  congr 1
  funext e
  rw [h e]
theorem same_len {m m' : RM} (ok : RingOk m) (ok' : RingOk m') (h : SameR m m') : m.length = m'.length := by
  rw [← repochs_count ok, ← repochs_count ok', same_epochs h]
theorem same_key {m m' : RM} (h : SameR m m') (p : List UInt8) (e : Int) : rkeyR m p e = rkeyR m' p e ∧ rkeyE m p e = rkeyE m' p e := by
  unfold rkeyR rkeyE
  rw [h e]
  exact ⟨rfl, rfl⟩

/-- The key of a file. -/
def fkey (pass salt : List UInt8) (r : Int) : List UInt8 := keyL pass salt r 32
theorem fkey_len (pass salt : List UInt8) {r : Int} (h1 : 1 ≤ r) (h2 : r ≤ 4096) : (fkey pass salt r).length = 32 ∧ keyE r 32 = 0 := by
  have h := keyE_ok (r := r) (n := 32) ⟨h1, h2⟩ ⟨by decide, by decide⟩
  refine ⟨?_, h⟩
  unfold fkey keyL
  rw [if_pos h]
  exact pbk_len _ _ _ _
theorem fkey_fit (pass salt : List UInt8) {r : Int} (nu : Nat) (h1 : 1 ≤ r) (h2 : r ≤ 4096) : fitK (fkey pass salt r) (nonceL 0 nu) = true := by
  unfold fitK
  rw [(fkey_len pass salt h1 h2).1, nonceL_len]
  rfl
/-- What Make tells: an error, the box. -/
def mkE (salt : List UInt8) (r nu : Int) (m : RM) : Int := if kfit salt.length r nu ((textR m).length + 16 : Nat) = true then 0 else 1
def mkB (pass salt : List UInt8) (r nu : Int) (m : RM) : List UInt8 := boxL (fkey pass salt r) (nonceL 0 nu.toNat) (headL salt r.toNat nu.toNat ((textR m).length + 16)) (textR m)
theorem mkB_len (pass salt : List UInt8) (r nu : Int) (m : RM) : (mkB pass salt r nu m).length = (textR m).length + 16 := boxL_len _ _ _ _
/-- What a box has: its text, if its tag holds. -/
def opT (pass salt : List UInt8) (r nu : Int) (box : List UInt8) : List UInt8 := openR (fkey pass salt r) (nonceL 0 nu.toNat) (headL salt r.toNat nu.toNat box.length) box
def opB (pass salt : List UInt8) (r nu : Int) (box : List UInt8) : Int := openE (fkey pass salt r) (nonceL 0 nu.toNat) (headL salt r.toNat nu.toNat box.length) box
/-- What Open tells: an error, the ring. -/
def opE (pass salt : List UInt8) (r nu : Int) (box : List UInt8) : Int := if kfit salt.length r nu box.length = true then (if opB pass salt r nu box = 0 then (match ringOf (opT pass salt r nu box) ((opT pass salt r nu box).length / 33) with | some _ => 0 | none => 5) else 8) else 1
def opM (pass salt : List UInt8) (r nu : Int) (box : List UInt8) : RM := (ringOf (opT pass salt r nu box) ((opT pass salt r nu box).length / 33)).getD []

/-- What is made is opened: the ring by its epochs. -/
theorem made_back {pass salt : List UInt8} {r nu : Int} {m : RM} (ok : RingOk m) (hk : mkE salt r nu m = 0) :
    kfit salt.length r nu (mkB pass salt r nu m).length = true ∧ opE pass salt r nu (mkB pass salt r nu m) = 0 ∧ opM pass salt r nu (mkB pass salt r nu m) = sortR m := by
  have hf : kfit salt.length r nu ((textR m).length + 16 : Nat) = true := by
    unfold mkE at hk
    split at hk
    · assumption
    · cases hk
  have hf2 : kfit salt.length r nu (mkB pass salt r nu m).length = true := by rw [mkB_len]; exact hf
  obtain ⟨_, _, k1, k2, _⟩ := (kfit_iff _ _ _ _).1 hf
  have hfit := fkey_fit pass salt nu.toNat k1 k2
  obtain ⟨o1, o2⟩ := open_box (fkey pass salt r) (nonceL 0 nu.toNat) (headL salt r.toNat nu.toNat ((textR m).length + 16)) (textR m) hfit
  have eT : opT pass salt r nu (mkB pass salt r nu m) = textR m := by unfold opT; rw [mkB_len]; exact o1
  have eB : opB pass salt r nu (mkB pass salt r nu m) = 0 := by unfold opB; rw [mkB_len]; exact o2
  have eR : ringOf (textR m) ((textR m).length / 33) = some (sortR m) := by
    rw [textR_len ok, show 33 * m.length / 33 = m.length by omega]
    exact ringOf_text ok
  refine ⟨hf2, ?_, ?_⟩
  · unfold opE; rw [if_pos hf2, if_pos eB, eT, eR]
  · unfold opM; rw [eT, eR]; rfl

end Go.Proofs.YtlnoopmblmkgkaaGreatDoor
