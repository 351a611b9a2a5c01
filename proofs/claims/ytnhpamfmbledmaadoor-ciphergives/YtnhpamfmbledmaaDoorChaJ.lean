/- Mix of package cipher: a round, and the whole. -/
import Derived.Test.YtnhpamfmbledmaaDoorChaI
namespace Go.Proofs.YtnhpamfmbledmaaDoor
open Go.RowKit
set_option linter.unusedVariables false
set_option linter.unusedSimpArgs false
attribute [local go_sem] Oper.semAt_some

theorem exec_load_mid {P : Program} {a : Act} {o : Oper} (w : World) (ty : TypeId) (x : Operand) (ho : o.op = .load ty x) (b f : Nat) (hx : a.eval x = .pointer (some ⟨b, f, none⟩)) (cs : List Value) (d : TypeDesc) (hc : w.rangeAt b f cs)
    (hu : P.underlying ty = some d) (hd : d.isRow = true) (hi : (P.info? ty).map (·.size) = some cs.length) : (execOp a.eval o).run P w = .ok (.value (.agg cs.toArray)) w := by
  unfold execOp
  simp only [ho, hx, Instr.loadAt, Instr.sureAddr, Sem.run_bind, Sem.run_pure, Result.andThen_ok, run_loadVar_mid w b f ty cs d hc hu hd hi]

/-- How Mix's variables stand between two rounds. -/
structure MixI (key nonce : List UInt8) (f : Nat) (b : List UInt8) (A3 : Option Addr) (n c3 : Nat) (w : World) (gm go gd z : Nat) (pre : List Nat) (W : World) : Prop where
  le : 64 * pre.length ≤ n
  lt : pre = [] ∨ 64 * pre.length < n
  bb : Bl W w.heap.size [.slice A3 n c3] 22
  bm : Bl W gm (cb (mixP key nonce f b pre)) 5
  bo : Bl W go [.slice (some ⟨gm, 0, none⟩) n n] 22
  bd : Bl W gd [.int .i64 ((64 * pre.length : Nat) : Int)] 3
  sz : z ≤ W.heap.size
  below : Below w.heap.size w W

structure MixX (key nonce : List UInt8) (f : Nat) (b : List UInt8) (n : Nat) (w : World) (gm go : Nat) (c : Code) (pre : List Nat) (W : World) : Prop where
  code : c = .exit 0
  all : n ≤ 64 * pre.length
  bm : Bl W gm (cb (mixP key nonce f b pre)) 5
  bo : Bl W go [.slice (some ⟨gm, 0, none⟩) n n] 22
  below : Below w.heap.size w W

theorem mixI_own {key nonce : List UInt8} {f : Nat} {b : List UInt8} {A3 : Option Addr} {n c3 : Nat} {w : World} {gm go gd z B : Nat} (hB : w.heap.size ≤ B) : OwnFrom B (MixI key nonce f b A3 n c3 w gm go gd z) := fun _ _ _ _ hs hg hr =>
  ⟨hs.le, hs.lt, bl_abides hs.bb hg hr, bl_abides hs.bm hg hr, bl_abides hs.bo hg hr, bl_abides hs.bd hg hr, Nat.le_trans hs.sz hg.size, ownFrom_below (β := Unit) (Nat.le_refl _) hB () _ _ _ hs.below hg hr⟩
theorem mixX_own {key nonce : List UInt8} {f : Nat} {b : List UInt8} {n : Nat} {w : World} {gm go B : Nat} (hB : w.heap.size ≤ B) (c : Code) : OwnFrom B (MixX key nonce f b n w gm go c) := fun _ _ _ _ hs hg hr =>
  ⟨hs.code, hs.all, bl_abides hs.bm hg hr, bl_abides hs.bo hg hr, ownFrom_below (β := Unit) (Nat.le_refl _) hB () _ _ _ hs.below hg hr⟩

end Go.Proofs.YtnhpamfmbledmaaDoor
