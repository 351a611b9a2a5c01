/- What the card's condition on the table of package cipher gives the walks; its witness. -/
import Derived.Test.YtlnoopmblmkgkaaGreatDoorLC
import Derived.Test.YtlnoopmblmkgkaaGreatDoorRows
import Derived.Lib.LaidTab
import Derived.LaidMore
import Derived.ProofKit
import Derived.OpenShut
import Derived.Stop.LaidErr
namespace Go.Proofs.YtlnoopmblmkgkaaGreatDoor
set_option maxRecDepth 100000
open Go.ChangeShapes Go.WideShapes Go.ChangeAt Go.RowKit

/-- The listed table, as the rows list it. -/
def laidC : List (String × DataW Unit) := [("hypogeum/cipher.quarters", Rows.laid_hypogeum_cipher_quarters)]
theorem gQ : Tryz.prog.globalNamed "hypogeum/cipher.quarters" = some 1 := by kernel_rfl
theorem tQ : (Tryz.prog.globals[1]?).map (·.type) = some 203 := by kernel_rfl
theorem cells_i64 : Tryz.prog.cellsOf 3 = 1 := by kernel_rfl
theorem cells_q : Tryz.prog.cellsOf 202 = 4 := by kernel_rfl
theorem cells_qs : Tryz.prog.cellsOf 203 = 32 := by kernel_rfl
def qrow (q : Q4) : List Int := [(q.a : Int), (q.b : Int), (q.c : Int), (q.d : Int)]
theorem laidQ : (Rows.laid_hypogeum_cipher_quarters : DataW Unit) = .agg (quar.map fun q => Lib.tabData .i64 (qrow q)) := by kernel_rfl
theorem qcell_row (q : Q4) : (qrow q).map (fun z => Value.int .i64 z) = qcell q := rfl

theorem qcs_at (j : Nat) (h : j < 32) : qcs[j]? = (qcell (quarAt (j / 4)))[j % 4]? := by
  have h1 := qcs_part (j / 4) (by omega)
  rw [← h1, List.getElem?_take_of_lt (by omega), List.getElem?_drop, show j / 4 * 4 + j % 4 = j by omega]

theorem tabc_head {W : World} {rest : List (String × DataW Unit)} (h : laidMet Tryz.prog (("hypogeum/cipher.quarters", Rows.laid_hypogeum_cipher_quarters) :: rest) W) : TabC W := by
  rw [laidQ] at h
  obtain ⟨ps, ⟨g', t', cs, fuel, p, q, hg', ht', hvar, hd, _, _⟩, _⟩ := h
  obtain rfl := Option.some.inj (gQ.symm.trans hg')
  obtain rfl := Option.some.inj (tQ.symm.trans ht')
  obtain ⟨xs, m, rfl, hx, hl, hxl, hrow⟩ := DataW.trod_array Tryz.underlying203 hd
  rw [cells_qs] at hl
  rw [cells_q] at hrow
  have hxs : xs.map (·.1) = quar.map fun q => (Lib.tabData .i64 (qrow q) : DataW Unit) := by
    have := congrArg Prod.fst hx
    simp only [DataW.agg.injEq] at this
    exact this.symm
  have hpart : ∀ i, i < 8 → (cs.toList.drop (i * 4)).take 4 = qcell (quarAt i) := fun i hi => by
    have h1 := hrow i hi
    have h2 : (xs.map (·.1))[i]? = some (Lib.tabData .i64 (qrow (quarAt i))) := by
      rw [hxs, List.getElem?_map]
      have : quar[i]? = some (quarAt i) := by
        rcases (show i = 0 ∨ i = 1 ∨ i = 2 ∨ i = 3 ∨ i = 4 ∨ i = 5 ∨ i = 6 ∨ i = 7 by omega) with rfl | rfl | rfl | rfl | rfl | rfl | rfl | rfl <;> rfl
      rw [this]; rfl
    rw [List.getElem?_map] at h2
    obtain ⟨y, hy, hy2⟩ := Option.map_eq_some_iff.1 h2
    rw [hy] at h1
    obtain ⟨d, pl⟩ := y
    simp only at hy2
    subst hy2
    rw [Lib.cells_of_tab Tryz.underlying202 Tryz.underlying3 cells_i64 cells_q h1, qcell_row]
  have hcs : cs.toList = qcs := by
    apply List.ext_getElem?
    intro j
    by_cases hj : j < 32
    · rw [qcs_at j hj, ← hpart (j / 4) (by omega), List.getElem?_take_of_lt (by omega), List.getElem?_drop, show j / 4 * 4 + j % 4 = j by omega]
    · rw [List.getElem?_eq_none (by omega), List.getElem?_eq_none (by rw [qcs_len]; omega)]
  intro j v hv
  have := World.var?_cell gQ hvar j
  rw [Nat.zero_add, this, ← Array.getElem?_toList, hcs]
  exact hv

theorem tabc_of_laid {W : World} (h : laidMetH Tryz.prog laidC W) : TabC W := by
  rw [MakeChecks.laidMetH_plain _ _ _ (by kernel_rfl)] at h
  exact tabc_head h

theorem door_metC (os : Os) (args : Array Value) : laidMetH Tryz.prog laidC ((World.doorLaid Tryz.prog 32 os).forCall (fun _ _ => 0) ⟨#[], args, []⟩).memory :=
  laidMetH_of_parts3 (fuel := 8) (laidMet_of_run' 8 (by kernel_rfl) (by kernel_rfl)) (by kernel_rfl) (by kernel_rfl)

end Go.Proofs.YtlnoopmblmkgkaaGreatDoor
