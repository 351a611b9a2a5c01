/- The walk of the law DigestAdds. -/
import Derived.Test.YtfmbilnbbpbpeaaDoorDigZ
namespace Go.Proofs.YtfmbilnbbpbpeaaDoor
open Go.RowKit
set_option linter.unusedVariables false

/-- What is owned stays owned while its own block does not turn. -/
theorem own_keep {w w' : World} {base : Nat} {e : TypeId} {size n : Nat} {v : Value} {xs : List Value} (h : w.ownsRow base e size v n xs) (hk : ∀ g, v.ownBlock = some g → w'.heap[g]? = w.heap[g]?) : w'.ownsRow base e size v n xs := by
  obtain ⟨h1, h2⟩ := h
  refine ⟨h1, ?_⟩
  rcases h2 with h2 | ⟨g, cap, cur, hv, hg, hh, r⟩
  · exact .inl h2
  · exact .inr ⟨g, cap, cur, hv, hg, by rw [hk g (by rw [hv]; rfl)]; exact hh, r⟩
theorem own_lt {w : World} {base : Nat} {e : TypeId} {size n : Nat} {v : Value} {xs : List Value} (h : w.ownsRow base e size v n xs) {g : Nat} (hg : v.ownBlock = some g) : g < w.heap.size := (h.lt g hg).2
theorem byte_up (b : UInt8) : ((b.toNat : Int) + 1) % 256 = ((UInt8.ofNat ((b.toNat + 1) % 256)).toNat : Int) := by
  simp only [UInt8.toNat_ofNat']
  omega

end Go.Proofs.YtfmbilnbbpbpeaaDoor

