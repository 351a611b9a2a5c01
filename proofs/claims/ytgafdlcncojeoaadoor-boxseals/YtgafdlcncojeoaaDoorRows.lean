/-
  NARROWER THAN 'FOR EVERY INPUT', by the rows' own cells (each row's printed sentence says how): BoxSeals: laid · BoxOpens: laid · BoxBack: laid · BoxForm: laid.
  DERIVED. THE GIVEN ROWS OF THIS SEAT. 4 by the template 'for every input the law returns true; each argument reads behind the call as it read before'; 0 by the template 'total and deterministic' (their statements: YtgafdlcncojeoaaDoorTotals.lean).
  GIVEN WITH THE SEED: the statements are not yours to turn. If you find one false, say at which input.
  Laid BY PROGRAM, IN A SANDBOX (cutbox-rows.mjs): the forced cells as the released guide's own fill.sh prints them over the translation 6739f40119ff1f6f… (all of the seat's roots in one cut). By AI agents, Wed Nov 11 2026. No macro, syntax, notation, axiom, sorry.
-/
import Derived.Test.YtgafdlcncojeoaaDoorChecked
import GoSem.Claim
import GoSem.ClaimJoined
import GoSem.ClaimMapViews
import Derived.JoinedTies
import Derived.KernelRfl
namespace Go.Proofs.YtgafdlcncojeoaaDoor
/- THE CELL 'sum', in the pinned program and in every row, IS THE sha256 OF THE DUMP (.gsa) THAT YtgafdlcncojeoaaDoorProg.lean LOADS. Nothing in Lean hashes anything: it is a label: what it is worth is what the hold of that sum in a sandbox is worth. -/
noncomputable def Tryd.pinned : Pinned := { name := "ytgafdlcncojeoaadoor", sum := "6739f40119ff1f6f855deb345271f1ee6f4279b0e844c6855d8d32a3a036f0e2", checked := Tryd.checked }
namespace Rows
def none {H : Type} : Left H := { results := [], args := [] }

/- WHAT THE LISTED PACKAGE-LEVEL VARIABLES READ AS WHEN THE CALL BEGINS. Each datum BY PROGRAM (the guide's laid-datum.mjs) off the statement by which the dump's own 'gosem.cut.vars' lays the variable. In a bare row this is a premise. The card (YtgafdlcncojeoaaDoorCards.lean) ties it to the program's text. -/
def laid_hypogeum_cipher_quarters {H : Type} : DataW H := .agg [.agg [.lit (.int .i64 0), .lit (.int .i64 4), .lit (.int .i64 8), .lit (.int .i64 12)], .agg [.lit (.int .i64 1), .lit (.int .i64 5), .lit (.int .i64 9), .lit (.int .i64 13)], .agg [.lit (.int .i64 2), .lit (.int .i64 6), .lit (.int .i64 10), .lit (.int .i64 14)], .agg [.lit (.int .i64 3), .lit (.int .i64 7), .lit (.int .i64 11), .lit (.int .i64 15)], .agg [.lit (.int .i64 0), .lit (.int .i64 5), .lit (.int .i64 10), .lit (.int .i64 15)], .agg [.lit (.int .i64 1), .lit (.int .i64 6), .lit (.int .i64 11), .lit (.int .i64 12)], .agg [.lit (.int .i64 2), .lit (.int .i64 7), .lit (.int .i64 8), .lit (.int .i64 13)], .agg [.lit (.int .i64 3), .lit (.int .i64 4), .lit (.int .i64 9), .lit (.int .i64 14)]]

/-- 'hypogeumlaw07.BoxSeals': WHATEVER THE INPUT: true; the input reads as it did. -/
def boxSealsSpec : ChangeSpec := { name := "boxSeals", fn := fun _ => fun
  | [d] => { results := [.lit (.bool true)], args := [d] }
  | _ => none }
def boxSealsRow : OpenClaim := { program := "ytgafdlcncojeoaadoor", sum := "6739f40119ff1f6f855deb345271f1ee6f4279b0e844c6855d8d32a3a036f0e2", func := "hypogeum/hypogeumlaw07.BoxSeals", spec := "boxSeals", unfollowed := true, recurses := true, named := ["hypogeum/cipher.quarters"], apart := false, laid := [("hypogeum/cipher.quarters", laid_hypogeum_cipher_quarters)] }
def BoxSealsSaid : Prop := boxSealsRow.holds Tryd.pinned (OpenSpec.ofChange boxSealsSpec)

/-- ITS FALSE NEIGHBOUR: 'it returns false'. Refute it at one input. -/
def boxSealsWrong : ChangeSpec := { name := "boxSeals", fn := fun _ => fun
  | [d] => { results := [.lit (.bool false)], args := [d] }
  | _ => none }
def BoxSealsWrongFalsely : Prop := boxSealsRow.holds Tryd.pinned (OpenSpec.ofChange boxSealsWrong)

/-- 'hypogeumlaw07.BoxOpens': WHATEVER THE INPUT: true; the input reads as it did. -/
def boxOpensSpec : ChangeSpec := { name := "boxOpens", fn := fun _ => fun
  | [d] => { results := [.lit (.bool true)], args := [d] }
  | _ => none }
def boxOpensRow : OpenClaim := { program := "ytgafdlcncojeoaadoor", sum := "6739f40119ff1f6f855deb345271f1ee6f4279b0e844c6855d8d32a3a036f0e2", func := "hypogeum/hypogeumlaw07.BoxOpens", spec := "boxOpens", unfollowed := true, recurses := true, named := ["hypogeum/cipher.quarters"], apart := false, laid := [("hypogeum/cipher.quarters", laid_hypogeum_cipher_quarters)] }
def BoxOpensSaid : Prop := boxOpensRow.holds Tryd.pinned (OpenSpec.ofChange boxOpensSpec)

/-- ITS FALSE NEIGHBOUR: 'it returns false'. Refute it at one input. -/
def boxOpensWrong : ChangeSpec := { name := "boxOpens", fn := fun _ => fun
  | [d] => { results := [.lit (.bool false)], args := [d] }
  | _ => none }
def BoxOpensWrongFalsely : Prop := boxOpensRow.holds Tryd.pinned (OpenSpec.ofChange boxOpensWrong)

/-- 'hypogeumlaw07.BoxBack': WHATEVER THE INPUT: true; the input reads as it did. -/
def boxBackSpec : ChangeSpec := { name := "boxBack", fn := fun _ => fun
  | [d1, d2] => { results := [.lit (.bool true)], args := [d1, d2] }
  | _ => none }
def boxBackRow : OpenClaim := { program := "ytgafdlcncojeoaadoor", sum := "6739f40119ff1f6f855deb345271f1ee6f4279b0e844c6855d8d32a3a036f0e2", func := "hypogeum/hypogeumlaw07.BoxBack", spec := "boxBack", unfollowed := true, recurses := true, named := ["hypogeum/cipher.quarters"], apart := false, laid := [("hypogeum/cipher.quarters", laid_hypogeum_cipher_quarters)] }
def BoxBackSaid : Prop := boxBackRow.holds Tryd.pinned (OpenSpec.ofChange boxBackSpec)

/-- ITS FALSE NEIGHBOUR: 'it returns false'. Refute it at one input. -/
def boxBackWrong : ChangeSpec := { name := "boxBack", fn := fun _ => fun
  | [d1, d2] => { results := [.lit (.bool false)], args := [d1, d2] }
  | _ => none }
def BoxBackWrongFalsely : Prop := boxBackRow.holds Tryd.pinned (OpenSpec.ofChange boxBackWrong)

/-- 'hypogeumlaw07.BoxForm': WHATEVER THE INPUT: true; the input reads as it did. -/
def boxFormSpec : ChangeSpec := { name := "boxForm", fn := fun _ => fun
  | [d] => { results := [.lit (.bool true)], args := [d] }
  | _ => none }
def boxFormRow : OpenClaim := { program := "ytgafdlcncojeoaadoor", sum := "6739f40119ff1f6f855deb345271f1ee6f4279b0e844c6855d8d32a3a036f0e2", func := "hypogeum/hypogeumlaw07.BoxForm", spec := "boxForm", unfollowed := true, recurses := true, named := ["hypogeum/cipher.quarters"], apart := false, laid := [("hypogeum/cipher.quarters", laid_hypogeum_cipher_quarters)] }
def BoxFormSaid : Prop := boxFormRow.holds Tryd.pinned (OpenSpec.ofChange boxFormSpec)

/-- ITS FALSE NEIGHBOUR: 'it returns false'. Refute it at one input. -/
def boxFormWrong : ChangeSpec := { name := "boxForm", fn := fun _ => fun
  | [d] => { results := [.lit (.bool false)], args := [d] }
  | _ => none }
def BoxFormWrongFalsely : Prop := boxFormRow.holds Tryd.pinned (OpenSpec.ofChange boxFormWrong)

/- THE SECOND FORM. 'bulk': how many values and letters a reading holds, each counted each time it is reached (what is shared counts as often as it is met; a slice's spare places count too). A statement '..UptoSaid' is the law's where the arguments, and the package variables that the reading takes, are together of bulk at most 1048576: NARROWER than '..Said'. Prove '..Said' where nothing that the law and all that it calls make is longer than what came in: it says more and counts as full. Else prove '..UptoSaid'. A law counts once. -/
mutual
def uptoBulk {H : Type} : DataW H → Nat
  | .lit (.string bytes) => bytes.length + 1
  | .lit _ => 1
  | .nil => 1
  | .ptr d => uptoBulk d + 1
  | .slice elems spare => uptoBulkAll elems + uptoBulkAll spare + 1
  | .agg parts => uptoBulkAll parts + 1
  | .iface _ d => uptoBulk d + 1
  | .map entries => uptoBulkEntries entries + 1
  | .held _ => 1
def uptoBulkAll {H : Type} : List (DataW H) → Nat
  | [] => 0
  | d :: r => uptoBulk d + uptoBulkAll r
def uptoBulkEntries {H : Type} : List (Lit × DataW H) → Nat
  | [] => 0
  | x :: r => uptoBulkEntry x + uptoBulkEntries r
def uptoBulkEntry {H : Type} : Lit × DataW H → Nat
  | (.string bytes, d) => bytes.length + uptoBulk d + 1
  | (_, d) => uptoBulk d + 1
 end
def uptoSmall : (H : Type) → List (DataW H) → Bool := fun _ ds => decide (uptoBulkAll ds ≤ 1048576)
def OpenSpec.upto (s : _root_.Go.ChangeSpec) : _root_.Go.OpenSpec := { _root_.Go.OpenSpec.ofChange s with cond := some uptoSmall }

/-- 'hypogeumlaw07.BoxSeals', WHERE WHAT IT READS IS OF BULK AT MOST 1048576: true; the input reads as it did. -/
def boxSealsUptoRow : OpenClaim := { program := "ytgafdlcncojeoaadoor", sum := "6739f40119ff1f6f855deb345271f1ee6f4279b0e844c6855d8d32a3a036f0e2", func := "hypogeum/hypogeumlaw07.BoxSeals", spec := "boxSeals", unfollowed := true, recurses := true, named := ["hypogeum/cipher.quarters"], apart := false, laid := [("hypogeum/cipher.quarters", laid_hypogeum_cipher_quarters)], narrowed := true }
def BoxSealsUptoSaid : Prop := boxSealsUptoRow.holds Tryd.pinned (OpenSpec.upto boxSealsSpec)

/-- 'hypogeumlaw07.BoxOpens', WHERE WHAT IT READS IS OF BULK AT MOST 1048576: true; the input reads as it did. -/
def boxOpensUptoRow : OpenClaim := { program := "ytgafdlcncojeoaadoor", sum := "6739f40119ff1f6f855deb345271f1ee6f4279b0e844c6855d8d32a3a036f0e2", func := "hypogeum/hypogeumlaw07.BoxOpens", spec := "boxOpens", unfollowed := true, recurses := true, named := ["hypogeum/cipher.quarters"], apart := false, laid := [("hypogeum/cipher.quarters", laid_hypogeum_cipher_quarters)], narrowed := true }
def BoxOpensUptoSaid : Prop := boxOpensUptoRow.holds Tryd.pinned (OpenSpec.upto boxOpensSpec)

/-- 'hypogeumlaw07.BoxBack', WHERE WHAT IT READS IS OF BULK AT MOST 1048576: true; the input reads as it did. -/
def boxBackUptoRow : OpenClaim := { program := "ytgafdlcncojeoaadoor", sum := "6739f40119ff1f6f855deb345271f1ee6f4279b0e844c6855d8d32a3a036f0e2", func := "hypogeum/hypogeumlaw07.BoxBack", spec := "boxBack", unfollowed := true, recurses := true, named := ["hypogeum/cipher.quarters"], apart := false, laid := [("hypogeum/cipher.quarters", laid_hypogeum_cipher_quarters)], narrowed := true }
def BoxBackUptoSaid : Prop := boxBackUptoRow.holds Tryd.pinned (OpenSpec.upto boxBackSpec)

/-- 'hypogeumlaw07.BoxForm', WHERE WHAT IT READS IS OF BULK AT MOST 1048576: true; the input reads as it did. -/
def boxFormUptoRow : OpenClaim := { program := "ytgafdlcncojeoaadoor", sum := "6739f40119ff1f6f855deb345271f1ee6f4279b0e844c6855d8d32a3a036f0e2", func := "hypogeum/hypogeumlaw07.BoxForm", spec := "boxForm", unfollowed := true, recurses := true, named := ["hypogeum/cipher.quarters"], apart := false, laid := [("hypogeum/cipher.quarters", laid_hypogeum_cipher_quarters)], narrowed := true }
def BoxFormUptoSaid : Prop := boxFormUptoRow.holds Tryd.pinned (OpenSpec.upto boxFormSpec)

end Rows
end Go.Proofs.YtgafdlcncojeoaaDoor
