/- The walk of the law DigestParts. -/
import Derived.Test.YtfmbilnbbpbpeaaDoorDigAdd
namespace Go.Proofs.YtfmbilnbbpbpeaaDoor
open Go.RowKit
set_option linter.unusedVariables false

theorem bytes_info : (Tryd.prog.info? 22).map (fun i => (i.zero, i.size, i.bytes)) = some (some (.slice none 0 0), 1, 24) := by kernel_rfl

theorem sl_row {w w' : World} {row : Option Nat} {A : Option Addr} {n : Nat} {xs : List Value} (h : Sl w w.heap.size A n xs) (hg : w.grownBy w' row) (ho : 0 < n → ∀ ad, A = some ad → row ≠ some ad.block) : Sl w' w'.heap.size A n xs :=
  ⟨h.1, fun hn => by
    obtain ⟨ad, e, hb, hc⟩ := h.2 hn
    refine ⟨ad, e, Nat.lt_of_lt_of_le hb hg.size, fun j u hu => ?_⟩
    rw [World.cell?_of_block (w := w) (hg.block _ (by rw [add_block]; exact hb) (fun e2 => ho hn ad e (by rw [add_block] at e2; exact e2.symm)))]
    exact hc j u hu⟩
/-- The parts that are gathered so far: each reads as it should, and lies apart from the two slices that grow. -/
def PInv (l0 : List (List UInt8)) (w : World) (a p : Option Nat) (k : Nat) (vs : List Value) : Prop :=
  ∀ j (hj : j < l0.length), j < k → ∃ A c, vs[j]? = some (.slice A l0[j].length c) ∧ Sl w w.heap.size A l0[j].length (cb l0[j]) ∧ l0[j].length ≤ c ∧ (A = none → c = 0) ∧ (0 < l0[j].length → ∀ ad, A = some ad → a ≠ some ad.block ∧ p ≠ some ad.block)
section
variable {l0 : List (List UInt8)} {w w' : World} {a a' p p' : Option Nat} {k : Nat} {vs : List Value}
theorem PInv.next (h : PInv l0 w a p k vs) (hb : Below w.heap.size w w') : PInv l0 w' a p k vs := fun j hj hk => by
  obtain ⟨A, c, h1, h2, h3⟩ := h j hj hk
  exact ⟨A, c, h1, h2.nx hb, h3⟩
theorem PInv.turn (h : PInv l0 w a p k vs) (hg : w.grownBy w' a) (ha : a' = a ∨ a' = some w.heap.size) : PInv l0 w' a' p k vs := fun j hj hk => by
  obtain ⟨A, c, h1, h2, h3, h4, h5⟩ := h j hj hk
  refine ⟨A, c, h1, sl_row h2 hg (fun hn ad e => (h5 hn ad e).1), h3, h4, fun hn ad e => ⟨?_, (h5 hn ad e).2⟩⟩
  rcases ha with ha | ha
  · rw [ha]; exact (h5 hn ad e).1
  · rw [ha]
    obtain ⟨ad', e', hb, _⟩ := h2.2 hn
    rw [e] at e'
    injection e' with e'
    subst e'
    intro e2
    injection e2 with e2
    omega
theorem PInv.turn2 (h : PInv l0 w a p k vs) (hg : w.grownBy w' p) (hp : p' = p ∨ p' = some w.heap.size) : PInv l0 w' a p' k vs := fun j hj hk => by
  obtain ⟨A, c, h1, h2, h3, h4, h5⟩ := h j hj hk
  refine ⟨A, c, h1, sl_row h2 hg (fun hn ad e => (h5 hn ad e).2), h3, h4, fun hn ad e => ⟨(h5 hn ad e).1, ?_⟩⟩
  rcases hp with hp | hp
  · rw [hp]; exact (h5 hn ad e).2
  · rw [hp]
    obtain ⟨ad', e', hb, _⟩ := h2.2 hn
    rw [e] at e'
    injection e' with e'
    subst e'
    intro e2
    injection e2 with e2
    omega
theorem PInv.snoc (h : PInv l0 w a p k vs) (hk : k < l0.length) (hv : vs.length = k) {A : Option Addr} {c : Nat} (h2 : Sl w w.heap.size A l0[k].length (cb l0[k])) (h3 : l0[k].length ≤ c) (h4 : A = none → c = 0)
    (h5 : 0 < l0[k].length → ∀ ad, A = some ad → a ≠ some ad.block ∧ p ≠ some ad.block) : PInv l0 w a p (k + 1) (vs ++ [.slice A l0[k].length c]) := fun j hj hjk => by
  rcases (show j < k ∨ j = k by omega) with hlt | rfl
  · obtain ⟨A', c', h1, h⟩ := h j hj hlt
    exact ⟨A', c', by rw [List.getElem?_append_left (by omega)]; exact h1, h⟩
  · exact ⟨A, c, by rw [List.getElem?_append_right (by omega), hv]; simp, h2, h3, h4, h5⟩
theorem PInv.parts {Ap : Option Addr} {cp : Nat} {base : Nat} {e : TypeId} (h : PInv l0 w a p l0.length vs) (ho : w.ownsRow base e 1 (.slice Ap l0.length cp) l0.length vs) : Parts w w.heap.size Ap l0.length l0 := by
  have hs := Sl.own ho
  refine ⟨vs, hs, hs.1, fun j hj => ?_⟩
  obtain ⟨A, c, h1, h2, h3, h4, _⟩ := h j hj hj
  exact ⟨_, h1, A, c, rfl, h2, h3, h4⟩
end

theorem dis_sym {a p : Option Nat} (h : a = none ∨ a ≠ p) : p = none ∨ p ≠ a := by
  rcases h with h | h
  · cases p with
    | none => exact .inl rfl
    | some x => right; rw [h]; intro e; cases e
  · exact .inr (Ne.symm h)
theorem own_where {w : World} {base : Nat} {e : TypeId} {A : Option Addr} {n c : Nat} {xs : List Value} (h : w.ownsRow base e 1 (.slice A n c) n xs) {ad : Addr} (e1 : A = some ad) : base ≤ ad.block ∧ ad.block < w.heap.size := by
  subst e1
  exact h.lt ad.block rfl
theorem dis_new {a p : Option Nat} {g : Nat} (ha : ∀ x, a = some x → x < g) (hp : p = some g) : a = none ∨ a ≠ p := by
  right
  rw [hp]
  intro e
  have := ha g e
  omega

end Go.Proofs.YtfmbilnbbpbpeaaDoor

