/-
  NARROWER THAN 'FOR EVERY INPUT', by the rows' own cells (each row's printed sentence says how): CipherBlocks: laid · CipherGives: laid · CipherMixes: laid · CipherTwice: laid · CipherParts: laid.
  DERIVED. THE GIVEN ROWS OF THIS SEAT. 5 by the template 'for every input the law returns true; each argument reads behind the call as it read before'; 0 by the template 'total and deterministic' (their statements: YtnhpamfmbledmaaDoorTotals.lean).
  GIVEN WITH THE SEED: the statements are not yours to turn. If you find one false, say at which input.
  Laid BY PROGRAM, IN A SANDBOX (cutbox-rows.mjs): the forced cells as the released guide's own fill.sh prints them over the translation c7fe23b9d1be44f3… (all of the seat's roots in one cut). By AI agents, Wed Nov 11 2026. No macro, syntax, notation, axiom, sorry.
-/
import Derived.Test.YtnhpamfmbledmaaDoorChecked
import GoSem.Claim
import GoSem.ClaimJoined
import GoSem.ClaimMapViews
import Derived.JoinedTies
import Derived.KernelRfl
namespace Go.Proofs.YtnhpamfmbledmaaDoor
/- THE CELL 'sum', in the pinned program and in every row, IS THE sha256 OF THE DUMP (.gsa) THAT YtnhpamfmbledmaaDoorProg.lean LOADS. Nothing in Lean hashes anything: it is a label: what it is worth is what the hold of that sum in a sandbox is worth. -/
noncomputable def Tryd.pinned : Pinned := { name := "ytnhpamfmbledmaadoor", sum := "c7fe23b9d1be44f335ebe90b8266fed2e5e640f08bbb20df73d483dab0f7a793", checked := Tryd.checked }
namespace Rows
def none {H : Type} : Left H := { results := [], args := [] }

/- WHAT THE LISTED PACKAGE-LEVEL VARIABLES READ AS WHEN THE CALL BEGINS. Each datum BY PROGRAM (the guide's laid-datum.mjs) off the statement by which the dump's own 'gosem.cut.vars' lays the variable. In a bare row this is a premise. The card (YtnhpamfmbledmaaDoorCards.lean) ties it to the program's text. -/
def laid_hypogeum_cipher_quarters {H : Type} : DataW H := .agg [.agg [.lit (.int .i64 0), .lit (.int .i64 4), .lit (.int .i64 8), .lit (.int .i64 12)], .agg [.lit (.int .i64 1), .lit (.int .i64 5), .lit (.int .i64 9), .lit (.int .i64 13)], .agg [.lit (.int .i64 2), .lit (.int .i64 6), .lit (.int .i64 10), .lit (.int .i64 14)], .agg [.lit (.int .i64 3), .lit (.int .i64 7), .lit (.int .i64 11), .lit (.int .i64 15)], .agg [.lit (.int .i64 0), .lit (.int .i64 5), .lit (.int .i64 10), .lit (.int .i64 15)], .agg [.lit (.int .i64 1), .lit (.int .i64 6), .lit (.int .i64 11), .lit (.int .i64 12)], .agg [.lit (.int .i64 2), .lit (.int .i64 7), .lit (.int .i64 8), .lit (.int .i64 13)], .agg [.lit (.int .i64 3), .lit (.int .i64 4), .lit (.int .i64 9), .lit (.int .i64 14)]]

/-- 'hypogeumlaw05.CipherBlocks': WHATEVER THE INPUT: true; the input reads as it did. -/
def cipherBlocksSpec : ChangeSpec := { name := "cipherBlocks", fn := fun _ => fun
  | [d1, d2, d3] => { results := [.lit (.bool true)], args := [d1, d2, d3] }
  | _ => none }
def cipherBlocksRow : OpenClaim := { program := "ytnhpamfmbledmaadoor", sum := "c7fe23b9d1be44f335ebe90b8266fed2e5e640f08bbb20df73d483dab0f7a793", func := "hypogeum/hypogeumlaw05.CipherBlocks", spec := "cipherBlocks", named := ["hypogeum/cipher.quarters"], apart := false, laid := [("hypogeum/cipher.quarters", laid_hypogeum_cipher_quarters)] }
def CipherBlocksSaid : Prop := cipherBlocksRow.holds Tryd.pinned (OpenSpec.ofChange cipherBlocksSpec)

/-- ITS FALSE NEIGHBOUR: 'it returns false'. Refute it at one input. -/
def cipherBlocksWrong : ChangeSpec := { name := "cipherBlocks", fn := fun _ => fun
  | [d1, d2, d3] => { results := [.lit (.bool false)], args := [d1, d2, d3] }
  | _ => none }
def CipherBlocksWrongFalsely : Prop := cipherBlocksRow.holds Tryd.pinned (OpenSpec.ofChange cipherBlocksWrong)

/-- 'hypogeumlaw05.CipherGives': WHATEVER THE INPUT: true; the input reads as it did. -/
def cipherGivesSpec : ChangeSpec := { name := "cipherGives", fn := fun _ => fun
  | [d1, d2, d3, d4] => { results := [.lit (.bool true)], args := [d1, d2, d3, d4] }
  | _ => none }
def cipherGivesRow : OpenClaim := { program := "ytnhpamfmbledmaadoor", sum := "c7fe23b9d1be44f335ebe90b8266fed2e5e640f08bbb20df73d483dab0f7a793", func := "hypogeum/hypogeumlaw05.CipherGives", spec := "cipherGives", unfollowed := true, recurses := true, named := ["hypogeum/cipher.quarters"], apart := false, laid := [("hypogeum/cipher.quarters", laid_hypogeum_cipher_quarters)] }
def CipherGivesSaid : Prop := cipherGivesRow.holds Tryd.pinned (OpenSpec.ofChange cipherGivesSpec)

/-- ITS FALSE NEIGHBOUR: 'it returns false'. Refute it at one input. -/
def cipherGivesWrong : ChangeSpec := { name := "cipherGives", fn := fun _ => fun
  | [d1, d2, d3, d4] => { results := [.lit (.bool false)], args := [d1, d2, d3, d4] }
  | _ => none }
def CipherGivesWrongFalsely : Prop := cipherGivesRow.holds Tryd.pinned (OpenSpec.ofChange cipherGivesWrong)

/-- 'hypogeumlaw05.CipherMixes': WHATEVER THE INPUT: true; the input reads as it did. -/
def cipherMixesSpec : ChangeSpec := { name := "cipherMixes", fn := fun _ => fun
  | [d] => { results := [.lit (.bool true)], args := [d] }
  | _ => none }
def cipherMixesRow : OpenClaim := { program := "ytnhpamfmbledmaadoor", sum := "c7fe23b9d1be44f335ebe90b8266fed2e5e640f08bbb20df73d483dab0f7a793", func := "hypogeum/hypogeumlaw05.CipherMixes", spec := "cipherMixes", unfollowed := true, recurses := true, named := ["hypogeum/cipher.quarters"], apart := false, laid := [("hypogeum/cipher.quarters", laid_hypogeum_cipher_quarters)] }
def CipherMixesSaid : Prop := cipherMixesRow.holds Tryd.pinned (OpenSpec.ofChange cipherMixesSpec)

/-- ITS FALSE NEIGHBOUR: 'it returns false'. Refute it at one input. -/
def cipherMixesWrong : ChangeSpec := { name := "cipherMixes", fn := fun _ => fun
  | [d] => { results := [.lit (.bool false)], args := [d] }
  | _ => none }
def CipherMixesWrongFalsely : Prop := cipherMixesRow.holds Tryd.pinned (OpenSpec.ofChange cipherMixesWrong)

/-- 'hypogeumlaw05.CipherTwice': WHATEVER THE INPUT: true; the input reads as it did. -/
def cipherTwiceSpec : ChangeSpec := { name := "cipherTwice", fn := fun _ => fun
  | [d] => { results := [.lit (.bool true)], args := [d] }
  | _ => none }
def cipherTwiceRow : OpenClaim := { program := "ytnhpamfmbledmaadoor", sum := "c7fe23b9d1be44f335ebe90b8266fed2e5e640f08bbb20df73d483dab0f7a793", func := "hypogeum/hypogeumlaw05.CipherTwice", spec := "cipherTwice", unfollowed := true, recurses := true, named := ["hypogeum/cipher.quarters"], apart := false, laid := [("hypogeum/cipher.quarters", laid_hypogeum_cipher_quarters)] }
def CipherTwiceSaid : Prop := cipherTwiceRow.holds Tryd.pinned (OpenSpec.ofChange cipherTwiceSpec)

/-- ITS FALSE NEIGHBOUR: 'it returns false'. Refute it at one input. -/
def cipherTwiceWrong : ChangeSpec := { name := "cipherTwice", fn := fun _ => fun
  | [d] => { results := [.lit (.bool false)], args := [d] }
  | _ => none }
def CipherTwiceWrongFalsely : Prop := cipherTwiceRow.holds Tryd.pinned (OpenSpec.ofChange cipherTwiceWrong)

/-- 'hypogeumlaw05.CipherParts': WHATEVER THE INPUT: true; the input reads as it did. -/
def cipherPartsSpec : ChangeSpec := { name := "cipherParts", fn := fun _ => fun
  | [d1, d2, d3] => { results := [.lit (.bool true)], args := [d1, d2, d3] }
  | _ => none }
def cipherPartsRow : OpenClaim := { program := "ytnhpamfmbledmaadoor", sum := "c7fe23b9d1be44f335ebe90b8266fed2e5e640f08bbb20df73d483dab0f7a793", func := "hypogeum/hypogeumlaw05.CipherParts", spec := "cipherParts", unfollowed := true, recurses := true, named := ["hypogeum/cipher.quarters"], apart := false, laid := [("hypogeum/cipher.quarters", laid_hypogeum_cipher_quarters)] }
def CipherPartsSaid : Prop := cipherPartsRow.holds Tryd.pinned (OpenSpec.ofChange cipherPartsSpec)

/-- ITS FALSE NEIGHBOUR: 'it returns false'. Refute it at one input. -/
def cipherPartsWrong : ChangeSpec := { name := "cipherParts", fn := fun _ => fun
  | [d1, d2, d3] => { results := [.lit (.bool false)], args := [d1, d2, d3] }
  | _ => none }
def CipherPartsWrongFalsely : Prop := cipherPartsRow.holds Tryd.pinned (OpenSpec.ofChange cipherPartsWrong)

/- THE SECOND FORM. 'bulk': how many values and letters a reading holds, each counted each time it is reached (what is shared counts as often as it is met; a slice's spare places count too). A statement '..UptoSaid' is the law's where the arguments, and the package variables that the reading takes, are together of bulk at most 1048576: NARROWER than '..Said'. Prove '..Said' where nothing that the law and all that it calls make is longer than what came in: it says more and counts as full. Else prove '..UptoSaid'. A law counts once. -/
mutual
def uptoBulk {H : Type} : DataW H → Nat
  | .lit (.string bytes) => bytes.length + 1
  | .lit _ => 1
  | .nil => 1
  | .ptr d => uptoBulk d + 1
  | .slice elems spare => uptoBulkAll elems + uptoBulkAll spare + 1
  | .agg parts => uptoBulkAll parts + 1
  | .iface _ d => uptoBulk d + 1
  | .map entries => uptoBulkEntries entries + 1
  | .held _ => 1
def uptoBulkAll {H : Type} : List (DataW H) → Nat
  | [] => 0
  | d :: r => uptoBulk d + uptoBulkAll r
def uptoBulkEntries {H : Type} : List (Lit × DataW H) → Nat
  | [] => 0
  | x :: r => uptoBulkEntry x + uptoBulkEntries r
def uptoBulkEntry {H : Type} : Lit × DataW H → Nat
  | (.string bytes, d) => bytes.length + uptoBulk d + 1
  | (_, d) => uptoBulk d + 1
 end
def uptoSmall : (H : Type) → List (DataW H) → Bool := fun _ ds => decide (uptoBulkAll ds ≤ 1048576)
def OpenSpec.upto (s : _root_.Go.ChangeSpec) : _root_.Go.OpenSpec := { _root_.Go.OpenSpec.ofChange s with cond := some uptoSmall }

/-- 'hypogeumlaw05.CipherBlocks', WHERE WHAT IT READS IS OF BULK AT MOST 1048576: true; the input reads as it did. -/
def cipherBlocksUptoRow : OpenClaim := { program := "ytnhpamfmbledmaadoor", sum := "c7fe23b9d1be44f335ebe90b8266fed2e5e640f08bbb20df73d483dab0f7a793", func := "hypogeum/hypogeumlaw05.CipherBlocks", spec := "cipherBlocks", named := ["hypogeum/cipher.quarters"], apart := false, laid := [("hypogeum/cipher.quarters", laid_hypogeum_cipher_quarters)], narrowed := true }
def CipherBlocksUptoSaid : Prop := cipherBlocksUptoRow.holds Tryd.pinned (OpenSpec.upto cipherBlocksSpec)

/-- 'hypogeumlaw05.CipherGives', WHERE WHAT IT READS IS OF BULK AT MOST 1048576: true; the input reads as it did. -/
def cipherGivesUptoRow : OpenClaim := { program := "ytnhpamfmbledmaadoor", sum := "c7fe23b9d1be44f335ebe90b8266fed2e5e640f08bbb20df73d483dab0f7a793", func := "hypogeum/hypogeumlaw05.CipherGives", spec := "cipherGives", unfollowed := true, recurses := true, named := ["hypogeum/cipher.quarters"], apart := false, laid := [("hypogeum/cipher.quarters", laid_hypogeum_cipher_quarters)], narrowed := true }
def CipherGivesUptoSaid : Prop := cipherGivesUptoRow.holds Tryd.pinned (OpenSpec.upto cipherGivesSpec)

/-- 'hypogeumlaw05.CipherMixes', WHERE WHAT IT READS IS OF BULK AT MOST 1048576: true; the input reads as it did. -/
def cipherMixesUptoRow : OpenClaim := { program := "ytnhpamfmbledmaadoor", sum := "c7fe23b9d1be44f335ebe90b8266fed2e5e640f08bbb20df73d483dab0f7a793", func := "hypogeum/hypogeumlaw05.CipherMixes", spec := "cipherMixes", unfollowed := true, recurses := true, named := ["hypogeum/cipher.quarters"], apart := false, laid := [("hypogeum/cipher.quarters", laid_hypogeum_cipher_quarters)], narrowed := true }
def CipherMixesUptoSaid : Prop := cipherMixesUptoRow.holds Tryd.pinned (OpenSpec.upto cipherMixesSpec)

/-- 'hypogeumlaw05.CipherTwice', WHERE WHAT IT READS IS OF BULK AT MOST 1048576: true; the input reads as it did. -/
def cipherTwiceUptoRow : OpenClaim := { program := "ytnhpamfmbledmaadoor", sum := "c7fe23b9d1be44f335ebe90b8266fed2e5e640f08bbb20df73d483dab0f7a793", func := "hypogeum/hypogeumlaw05.CipherTwice", spec := "cipherTwice", unfollowed := true, recurses := true, named := ["hypogeum/cipher.quarters"], apart := false, laid := [("hypogeum/cipher.quarters", laid_hypogeum_cipher_quarters)], narrowed := true }
def CipherTwiceUptoSaid : Prop := cipherTwiceUptoRow.holds Tryd.pinned (OpenSpec.upto cipherTwiceSpec)

/-- 'hypogeumlaw05.CipherParts', WHERE WHAT IT READS IS OF BULK AT MOST 1048576: true; the input reads as it did. -/
def cipherPartsUptoRow : OpenClaim := { program := "ytnhpamfmbledmaadoor", sum := "c7fe23b9d1be44f335ebe90b8266fed2e5e640f08bbb20df73d483dab0f7a793", func := "hypogeum/hypogeumlaw05.CipherParts", spec := "cipherParts", unfollowed := true, recurses := true, named := ["hypogeum/cipher.quarters"], apart := false, laid := [("hypogeum/cipher.quarters", laid_hypogeum_cipher_quarters)], narrowed := true }
def CipherPartsUptoSaid : Prop := cipherPartsUptoRow.holds Tryd.pinned (OpenSpec.upto cipherPartsSpec)

end Rows
end Go.Proofs.YtnhpamfmbledmaaDoor
