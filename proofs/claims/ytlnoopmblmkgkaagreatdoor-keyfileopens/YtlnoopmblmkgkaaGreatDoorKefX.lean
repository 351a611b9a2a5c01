/- Layer 11, keyfile: how arguments that are files and Asks are opened. -/
import Derived.Test.YtlnoopmblmkgkaaGreatDoorKA
import Derived.Test.YtlnoopmblmkgkaaGreatDoorChaX
import Derived.Test.YtlnoopmblmkgkaaGreatDoorKG
namespace Go.Proofs.YtlnoopmblmkgkaaGreatDoor
set_option maxRecDepth 100000
open Go.ChangeShapes Go.WideShapes Go.ChangeAt Go.RowKit
set_option linter.unusedVariables false
set_option linter.unusedSimpArgs false

/-- A file that came in. -/
def FileArg (w : World) (v : Value) : Prop := ∃ A n c S r nu B m d X, v = .agg (fC A n c r nu B m d).toArray ∧ InBytes w A n c S ∧ InBytes w B m d X ∧ (Lit.int .i64 r).wf = true ∧ (Lit.int .i64 nu).wf = true

theorem opens_file {H : Type} {enc : TypeId × Value → H} {W : World} {b0 : Nat} {r : Reach} {v : Value} {d : DataW H} {p : List MemPlace} {ts : List TypeId} {ds : List (DataW H)} {j : Nat} (hv : Value.okWide Tryz.prog W r b0 35 v)
    (h : DataW.Trod enc Tryz.prog W 0 (fun _ => true) true 35 v d p) (lt0 : ∀ x ∈ p, x.block < W.heap.size)
    (hsz : (DataW.weightsEach Tryz.prog ts ds).all (· ≤ reachBytes) = true) (htj : ts[j]? = some 35) (hdj : ds[j]? = some d) : FileArg W v := by
  have hall : ∀ m ∈ d.weights Tryz.prog 35, m ≤ reachBytes := fun m hm => by
    have := List.all_eq_true.1 hsz _ (DataW.weights_mem_each htj hdj m hm)
    simpa using this
  obtain ⟨v0, v1, v2, v3, y0, y1, y2, y3, n, rfl, rfl, rfl, h0, h1, h2, h3⟩ := Joins.open_agg4 Tryz.underlying35 (by kernel_rfl) (by kernel_rfl) hv h
  have hu := Tryz.underlying35
  simp only [DataW.weights, hu, DataW.weightsEach, List.mem_append, List.map_cons, List.map_nil] at hall
  obtain ⟨A0, n0, c0, l0, rfl, i0⟩ := open_sl_sized Tryz.underlying22 Tryz.underlying5 (by kernel_rfl) (by kernel_rfl) h0 (fun x hx => lt0 x (by simp [hx])) (fun m hm => hall m (by simp [hm]))
  obtain ⟨r, rfl, hr⟩ := open_i64 Tryz.underlying3 h1
  obtain ⟨nu, rfl, hn⟩ := open_i64 Tryz.underlying3 h2
  obtain ⟨A3, n3, c3, l3, rfl, i3⟩ := open_sl_sized Tryz.underlying22 Tryz.underlying5 (by kernel_rfl) (by kernel_rfl) h3 (fun x hx => lt0 x (by simp [hx])) (fun m hm => hall m (by simp [hm]))
  exact ⟨A0, n0, c0, l0, r, nu, A3, n3, c3, l3, rfl, i0, i3, hr, hn⟩

theorem open_intk {H : Type} {enc : TypeId × Value → H} {P : Program} {W : World} {t : TypeId} {k : IntKind} {fuel : Nat} {v : Value} {y : DataW H × List MemPlace}
    (ht : P.underlying t = some (.int k)) (hf : DataW.trod enc P W 0 (fun _ => true) true fuel t [v] = some y) : ∃ z, v = .int k z ∧ (Lit.int k z).wf = true := by
  obtain ⟨n, hcs, _, hw⟩ := DataW.trod_int ht hf
  simp only [List.cons.injEq, and_true] at hcs
  exact ⟨n, hcs, hw⟩

/-- The cells of an Ask. -/
def kaC (A0 : Option Addr) (n0 c0 : Nat) (A1 : Option Addr) (n1 c1 : Nat) (r nu : Int) (M : Option Addr) (mn mc : Nat) (A5 : Option Addr) (n5 c5 : Nat) (x y : Int) : List Value :=
  [.slice A0 n0 c0, .slice A1 n1 c1, .int .i64 r, .int .i64 nu, .slice M mn mc, .slice A5 n5 c5, .int .u16 x, .int .u8 y]
/-- What a walk is told of an Ask. -/
structure KAsk (w : World) (A0 : Option Addr) (n0 c0 : Nat) (l0 : List UInt8) (A1 : Option Addr) (n1 c1 : Nat) (l1 : List UInt8) (r nu : Int) (M : Option Addr) (mn mc : Nat) (ms : List (Int × List UInt8)) (A5 : Option Addr) (n5 c5 : Nat) (l5 : List UInt8) (x y : Int) : Prop where
  pass : InBytes w A0 n0 c0 l0
  salt : InBytes w A1 n1 c1 l1
  other : InBytes w A5 n5 c5 l5
  masters : InPairs w M mn mc ms
  rounds : (Lit.int .i64 r).wf = true
  number : (Lit.int .i64 nu).wf = true
  at_ : 0 ≤ x ∧ x < 65536
  by_ : 0 ≤ y ∧ y < 256
def KAskArg (w : World) (v : Value) : Prop := ∃ A0 n0 c0 l0 A1 n1 c1 l1 r nu M mn mc ms A5 n5 c5 l5 x y, v = .agg (kaC A0 n0 c0 A1 n1 c1 r nu M mn mc A5 n5 c5 x y).toArray ∧ KAsk w A0 n0 c0 l0 A1 n1 c1 l1 r nu M mn mc ms A5 n5 c5 l5 x y

theorem opens_ask {H : Type} {enc : TypeId × Value → H} {W : World} {b0 : Nat} {r : Reach} {v : Value} {d : DataW H} {p : List MemPlace} {ts : List TypeId} {ds : List (DataW H)} {j : Nat} (hv : Value.okWide Tryz.prog W r b0 26 v)
    (h : DataW.Trod enc Tryz.prog W 0 (fun _ => true) true 26 v d p) (lt0 : ∀ x ∈ p, x.block < W.heap.size)
    (hsz : (DataW.weightsEach Tryz.prog ts ds).all (· ≤ reachBytes) = true) (htj : ts[j]? = some 26) (hdj : ds[j]? = some d) : KAskArg W v := by
  have hall : ∀ m ∈ d.weights Tryz.prog 26, m ≤ reachBytes := fun m hm => by
    have := List.all_eq_true.1 hsz _ (DataW.weights_mem_each htj hdj m hm)
    simpa using this
  have hu := Tryz.underlying26
  obtain ⟨vs, xs, n, rfl, hvl, hxl, rfl, rfl, hfld⟩ := open_aggN hu (by kernel_rfl) (by kernel_rfl) hv h
  have hvl8 : vs.length = 8 := hvl
  have hxl8 : xs.length = 8 := hxl
  match vs, hvl8, xs, hxl8 with
  | [v0, v1, v2, v3, v4, v5, v6, v7], _, [y0, y1, y2, y3, y4, y5, y6, y7], _ =>
    obtain ⟨_, _, e0, f0, h0⟩ := hfld 0 _ rfl
    obtain ⟨_, _, e1, f1, h1⟩ := hfld 1 _ rfl
    obtain ⟨_, _, e2, f2, h2⟩ := hfld 2 _ rfl
    obtain ⟨_, _, e3, f3, h3⟩ := hfld 3 _ rfl
    obtain ⟨_, _, e4, f4, h4⟩ := hfld 4 _ rfl
    obtain ⟨_, _, e5, f5, h5⟩ := hfld 5 _ rfl
    obtain ⟨_, _, e6, f6, h6⟩ := hfld 6 _ rfl
    obtain ⟨_, _, e7, f7, h7⟩ := hfld 7 _ rfl
    cases e0; cases e1; cases e2; cases e3; cases e4; cases e5; cases e6; cases e7
    cases f0; cases f1; cases f2; cases f3; cases f4; cases f5; cases f6; cases f7
    clear hfld
    simp only [DataW.weights, hu, DataW.weightsEach, List.mem_append, List.map_cons, List.map_nil] at hall
    simp only [List.flatMap_cons, List.flatMap_nil, List.append_nil, List.mem_append] at lt0
    obtain ⟨A0, n0, c0, l0, rfl, i0⟩ := open_sl_sized Tryz.underlying22 Tryz.underlying5 (by kernel_rfl) (by kernel_rfl) h0 (fun x hx => lt0 x (by simp [hx])) (fun m hm => hall m (by simp [hm]))
    obtain ⟨A1, n1, c1, l1, rfl, i1⟩ := open_sl_sized Tryz.underlying22 Tryz.underlying5 (by kernel_rfl) (by kernel_rfl) h1 (fun x hx => lt0 x (by simp [hx])) (fun m hm => hall m (by simp [hm]))
    obtain ⟨r, rfl, hr⟩ := open_i64 Tryz.underlying3 h2
    obtain ⟨nu, rfl, hn⟩ := open_i64 Tryz.underlying3 h3
    obtain ⟨M, mn, mc, ms, rfl, i4⟩ := open_pairs Tryz.underlying23 Tryz.underlying63 (by kernel_rfl) rfl rfl (by kernel_rfl) (by kernel_rfl) Tryz.underlying3 Tryz.underlying22 Tryz.underlying5 (by kernel_rfl) (by kernel_rfl) h4 (fun x hx => lt0 x (by simp [hx])) (fun m hm => hall m (by simp [hm]))
    obtain ⟨A5, n5, c5, l5, rfl, i5⟩ := open_sl_sized Tryz.underlying22 Tryz.underlying5 (by kernel_rfl) (by kernel_rfl) h5 (fun x hx => lt0 x (by simp [hx])) (fun m hm => hall m (by simp [hm]))
    obtain ⟨x, rfl, hx⟩ := open_intk Tryz.underlying24 h6
    obtain ⟨y, rfl, hy⟩ := open_intk Tryz.underlying5 h7
    have hx2 : 0 ≤ x ∧ x < 65536 := by
      have h1 : IntKind.u16.min = 0 := by decide
      have h2 : IntKind.u16.max = 65535 := by decide
      simp only [Lit.wf, h1, h2, Bool.and_eq_true, decide_eq_true_eq] at hx
      omega
    have hy2 : 0 ≤ y ∧ y < 256 := by have := bounds_u8 hy; omega
    exact ⟨A0, n0, c0, l0, A1, n1, c1, l1, r, nu, M, mn, mc, ms, A5, n5, c5, l5, x, y, rfl, i0, i1, i5, i4, hr, hn, hx2, hy2⟩

end Go.Proofs.YtlnoopmblmkgkaaGreatDoor
