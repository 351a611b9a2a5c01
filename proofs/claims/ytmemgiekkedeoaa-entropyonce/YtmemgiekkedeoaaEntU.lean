/- A source of the program and one of the document beside one another, through a step. -/
import Derived.Test.YtmemgiekkedeoaaLF
namespace Go.Proofs.Ytmemgiekkedeoaa
set_option maxRecDepth 100000
open Go.RowKit
set_option linter.unusedVariables false
set_option linter.unusedSimpArgs false

/-- The program's source lies at g, the document's in the variable gr; both have the bytes l left and d drawn; their bytes lie in no block of F. -/
structure Both (F : Nat → Prop) (w : World) (g gr : Nat) (A : Option Addr) (n c : Nat) (l : List UInt8) (d : Nat) (R : Option Addr) (rc : Nat) : Prop where
  src : Src w g A n c l d
  bl : Bl w gr (rsC R n rc (d : Int)) 29
  sl : Sl w w.heap.size R n (cb l)
  cap : n ≤ rc
  nn : R = none → rc = 0
  away : ∀ k, F k → Off k n A ∧ Off k n R

section
variable {F : Nat → Prop} {w w' : World} {g gr n c d rc k mn : Nat} {A R : Option Addr} {l : List UInt8}
/- of a program with 29 -/
theorem Both.next (h : Both F w g gr A n c l d R rc) (hb : Below w.heap.size w w') : Both F w' g gr A n c l d R rc := ⟨h.src.next hb, h.bl.next hb, h.sl.nx hb, h.cap, h.nn, h.away⟩
theorem Both.other (h : Both F w g gr A n c l d R rc) (hg : w.grownBy w' (some k)) (hk : F k) (h1 : k ≠ g) (h2 : k ≠ gr) : Both F w' g gr A n c l d R rc :=
  ⟨h.src.but hg h1 (h.away k hk).1, h.bl.grown hg (fun e => by injection e with e; exact h2 e), h.sl.nb hg (h.away k hk).2, h.cap, h.nn, h.away⟩
theorem Both.row {row : Option Nat} (h : Both F w g gr A n c l d R rc) (hg : w.grownBy w' row) (h1 : row ≠ some g) (h2 : row ≠ some gr) (ha : 0 < n → ∀ ad, A = some ad → row ≠ some ad.block) (hr : 0 < n → ∀ ad, R = some ad → row ≠ some ad.block) : Both F w' g gr A n c l d R rc :=
  ⟨h.src.row hg h1 ha, h.bl.grown hg h2, sl_row h.sl hg hr, h.cap, h.nn, h.away⟩
theorem Both.step {e : Ending} (h : Both F w g gr A n c l d R rc) (hF : ∀ k, F k → k < w.heap.size) (hg : F g) (hgr : F gr) (hne : g ≠ gr) (hp : DoesPost w g n A l d R n mn e w') :
    ∃ A' n' c' l' d' R' rc', e = .returned (.tuple #[.agg (rsC R' n' rc' ((d' : Nat) : Int)).toArray, .bool true]) ∧ w'.there gr 0 (rsC R' n' rc' (d' : Int)).toArray.size ∧
      (∃ W, Hid (w'.setCells gr 0 (rsC R' n' rc' (d' : Int)).toArray.toList = W) ∧ Both F W g gr A' n' c' l' d' R' rc' ∧ w'.grownBy W (some gr)) ∧ n' + d' ≤ n + d + mn ∧ w.grownBy w' (some g) := by
  obtain ⟨R', rn', rc', A', n', c', l', d', rfl, s1, f1, r1, k1, z1, f2, hs, hgr1⟩ := hp
  have hn : rn' = n' := by rw [s1.len, ← r1.1, cb_len]
  subst hn
  have b1 := h.bl.grown hgr1 (fun e => by injection e with e; exact hne e)
  have g2 : w'.grownBy (w'.setCells gr 0 (rsC R' rn' rc' (d' : Int))) (some gr) := but_setCells (but_refl w' _) 0 _
  have haw : ∀ k, F k → Off k rn' A' ∧ Off k rn' R' := fun k hk => ⟨f1.off (h.away k hk).1 (hF k hk), f2.off (h.away k hk).2 (hF k hk)⟩
  exact ⟨A', rn', c', l', d', R', rc', rfl, b1.there_ (by simp [rsC]), ⟨_, (rfl : _ = _), ⟨s1.but g2 (Ne.symm hne) (haw gr hgr).1, b1.over rfl, r1.nb g2 (haw gr hgr).2, k1, z1, haw⟩, g2⟩, hs, hgr1⟩
end

/-- A source of the document's is put into a new variable: the world behind it under a name. -/
theorem put_rs (w : World) (R : Option Addr) (n c : Nat) (d : Int) (T : TypeId) : ∃ W, Hid ((w.alloc (.cells (rsC none 0 0 0).toArray T)).setCells w.heap.size 0 (rsC R n c d).toArray.toList = W) ∧ (w.alloc (.cells (rsC none 0 0 0).toArray T)).there w.heap.size 0 (rsC R n c d).toArray.size ∧
    Bl W w.heap.size (rsC R n c d) T ∧ Below w.heap.size w W ∧ W.heap.size = w.heap.size + 1 := by
  obtain ⟨b0, hb0, hsz0⟩ := put_new w (rsC none 0 0 0) (rsC R n c d) T rfl
  exact ⟨_, (rfl : _ = _), (Bl.new w (rsC none 0 0 0) T).there_ (by simp [rsC]), b0, hb0, hsz0⟩

theorem sl_lt {w : World} {B n : Nat} {A : Option Addr} {xs : List Value} (h : Sl w B A n xs) (hn : 0 < n) {ad : Addr} (e : A = some ad) : ad.block < B := by
  obtain ⟨a, e2, hb, _⟩ := h.2 hn
  rw [e] at e2; injection e2 with e2; subst e2; exact hb

theorem built_rs0 (R : Option Addr) (rn rc : Nat) : Try.prog.built 29 [(0, .slice R rn rc)] = some (rsC R rn rc 0).toArray := by kernel_rfl

theorem few_yes {n0 : Nat} {ds : List (Int × List UInt8)} (h : fewB n0 ds = true) : ds.length ≤ 30 ∧ n0 ≤ 4000 ∧ ∀ j (hj : j < ds.length), ds[j].2.length ≤ 400 := by
  unfold fewB at h
  rw [decide_eq_true_eq] at h
  exact ⟨h.1, h.2.1, fun j hj => h.2.2 _ (List.getElem_mem hj)⟩

end Go.Proofs.Ytmemgiekkedeoaa
