/- Layer 11, keyfile: a file in memory. -/
import Derived.Test.YtlnoopmblmkgkaaGreatDoorKefP
import Derived.Test.YtlnoopmblmkgkaaGreatDoorLA
namespace Go.Proofs.YtlnoopmblmkgkaaGreatDoor
set_option maxRecDepth 100000
open Go.ChangeShapes Go.WideShapes Go.ChangeAt Go.RowKit
set_option linter.unusedVariables false
set_option linter.unusedSimpArgs false

theorem InBytes.nx {w w' : World} {A : Option Addr} {n c : Nat} {l : List UInt8} (h : InBytes w A n c l) (hb : Below w.heap.size w w') : InBytes w' A n c l := ⟨h.sl.nx hb, h.len, h.cap, h.none_, h.room⟩

/-- The cells of a file. -/
def fC (A : Option Addr) (n c : Nat) (r nu : Int) (B : Option Addr) (m d : Nat) : List Value := [.slice A n c, .int .i64 r, .int .i64 nu, .slice B m d]
theorem fC_one (A : Option Addr) (n c : Nat) (r nu : Int) (B : Option Addr) (m d : Nat) : ∀ v ∈ fC A n c r nu B m d, v.oneCell' = true := by
  intro v hv
  simp only [fC, List.mem_cons, List.not_mem_nil, or_false] at hv
  rcases hv with rfl | rfl | rfl | rfl <;> rfl
theorem fC_len (A : Option Addr) (n c : Nat) (r nu : Int) (B : Option Addr) (m d : Nat) : (fC A n c r nu B m d).length = 4 := rfl
def nilF : List Value := fC none 0 0 0 0 none 0 0
theorem nilF_one : ∀ v ∈ nilF, v.oneCell' = true := fC_one _ _ _ _ _ _ _ _
theorem f_cells {w : World} {g : Nat} {t : TypeId} {A : Option Addr} {n c : Nat} {r nu : Int} {B : Option Addr} {m d : Nat} (h : Bl w g (fC A n c r nu B m d) t) :
    w.cell? ⟨g, 0, none⟩ = some (.slice A n c) ∧ w.cell? ⟨g, 1, none⟩ = some (.int .i64 r) ∧ w.cell? ⟨g, 2, none⟩ = some (.int .i64 nu) ∧ w.cell? ⟨g, 3, none⟩ = some (.slice B m d) :=
  ⟨h.cell 0, h.cell 1, h.cell 2, h.cell 3⟩

theorem size_kf : (Tryz.prog.info? 35).map (·.size) = some 4 := by kernel_rfl

theorem zero_kf : (Tryz.prog.info? 35).map (·.zero) = some (some (.agg nilF.toArray)) := by kernel_rfl

theorem built_kf (A : Option Addr) (n c : Nat) (r nu : Int) (B : Option Addr) (m d : Nat) :
    Tryz.prog.built 35 [(0, .slice A n c), (1, .int .i64 r), (2, .int .i64 nu), (3, .slice B m d)] = some (fC A n c r nu B m d).toArray := by kernel_rfl

theorem built_kf0 : Tryz.prog.built 35 [] = some nilF.toArray := by kernel_rfl

theorem size_rf : (Tryz.prog.info? 39).map (·.size) = some 4 := by kernel_rfl

theorem zero_rf : (Tryz.prog.info? 39).map (·.zero) = some (some (.agg nilF.toArray)) := by kernel_rfl

theorem built_rf (A : Option Addr) (n c : Nat) (r nu : Int) (B : Option Addr) (m d : Nat) :
    Tryz.prog.built 39 [(0, .slice A n c), (1, .int .i64 r), (2, .int .i64 nu), (3, .slice B m d)] = some (fC A n c r nu B m d).toArray := by kernel_rfl

theorem built_rf3 (A : Option Addr) (n c : Nat) (r nu : Int) :
    Tryz.prog.built 39 [(0, .slice A n c), (1, .int .i64 r), (2, .int .i64 nu)] = some (fC A n c r nu none 0 0).toArray := by kernel_rfl

theorem built_rf0 : Tryz.prog.built 39 [] = some nilF.toArray := by kernel_rfl

/-- A file in a new variable: the world behind it under a name. -/
theorem put_f (w : World) (cs : List Value) (T : TypeId) : ∃ W, Hid (w.alloc (.cells cs.toArray T) = W) ∧ Bl W w.heap.size cs T ∧ Below w.heap.size w W ∧ W.heap.size = w.heap.size + 1 := by
  exact ⟨_, (rfl : _ = _), Bl.new w cs T, (Below.refl _ w).alloc (Nat.le_refl _) _, alloc_size w _⟩

/-- Bytes in memory. -/
structure By (w : World) (A : Option Addr) (n c : Nat) (l : List UInt8) : Prop where
  sl : Sl w w.heap.size A n (cb l)
  len : n = l.length
  cap : n ≤ c
  none_ : A = none → c = 0
theorem By.nx {w w' : World} {A : Option Addr} {n c : Nat} {l : List UInt8} (h : By w A n c l) (hb : Below w.heap.size w w') : By w' A n c l := ⟨h.sl.nx hb, h.len, h.cap, h.none_⟩
theorem by_nil (w : World) : By w none 0 0 [] := ⟨Sl.nil_, rfl, Nat.le_refl _, fun _ => rfl⟩
theorem InBytes.bys {w : World} {A : Option Addr} {n c : Nat} {l : List UInt8} (h : InBytes w A n c l) : By w A n c l := ⟨h.sl, h.len, h.cap, h.none_⟩
theorem NewBytes.bys {E : TypeId} {w w' : World} {n : Nat} {l : List UInt8} {A : Option Addr} {c : Nat} (h : NewBytes E w n l A c w') : By w' A n c l := ⟨h.sl, by rw [← cb_len l, h.sl.1], own_cap h.own, h.none_⟩
theorem By.nb {w w' : World} {g : Nat} {A : Option Addr} {n c : Nat} {l : List UInt8} (h : By w A n c l) (hb : w.grownBy w' (some g)) (ho : Off g n A) : By w' A n c l := ⟨h.sl.nb hb ho, h.len, h.cap, h.none_⟩

/-- What a file has, in memory: its salt, its box. -/
structure Fil (w : World) (A : Option Addr) (n c : Nat) (S : List UInt8) (B : Option Addr) (m d : Nat) (X : List UInt8) : Prop where
  salt : By w A n c S
  box : By w B m d X
theorem Fil.nx {w w' : World} {A B : Option Addr} {n c m d : Nat} {S X : List UInt8} (h : Fil w A n c S B m d X) (hb : Below w.heap.size w w') : Fil w' A n c S B m d X := ⟨h.salt.nx hb, h.box.nx hb⟩
theorem Fil.nb {w w' : World} {A B : Option Addr} {n c m d g : Nat} {S X : List UInt8} (h : Fil w A n c S B m d X) (hb : w.grownBy w' (some g)) (o1 : Off g n A) (o2 : Off g m B) : Fil w' A n c S B m d X := ⟨h.salt.nb hb o1, h.box.nb hb o2⟩
theorem fil_nil (w : World) : Fil w none 0 0 [] none 0 0 [] := ⟨by_nil w, by_nil w⟩

/-- A file as a value. -/
structure FV where
  S : List UInt8
  r : Int
  nu : Int
  X : List UInt8
def nilV : FV := ⟨[], 0, 0, []⟩
/-- What a call that tells a file and an error tells. -/
def RetFile (w : World) (v : FV) (err : Int) (e : Ending) (w' : World) : Prop := ∃ A n c B m d, e = .returned (.tuple #[.agg (fC A n c v.r v.nu B m d).toArray, .int .i64 err]) ∧ Fil w' A n c v.S B m d v.X ∧ Below w.heap.size w w'
theorem retFile_nil {w w' : World} {v : FV} {err : Int} (hv : v = nilV) (hb : Below w.heap.size w w') : RetFile w v err (.returned (.tuple #[.agg nilF.toArray, .int .i64 err])) w' := by
  subst hv
  exact ⟨none, 0, 0, none, 0, 0, rfl, fil_nil _, hb⟩

end Go.Proofs.YtlnoopmblmkgkaaGreatDoor
