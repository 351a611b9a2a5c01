/-
  No cell of these rows narrows 'for every input' (looked for: loops, veiled, ifaces, maps, wideKeys, modest, calm, conditions, laid).
  DERIVED. THE GIVEN ROWS OF THIS SEAT. 4 by the template 'for every input the law returns true; each argument reads behind the call as it read before'; 0 by the template 'total and deterministic' (their statements: YtckbogdgiieddaaTotals.lean).
  GIVEN WITH THE SEED: the statements are not yours to turn. If you find one false, say at which input.
  Laid BY PROGRAM, IN A SANDBOX (cutbox-rows.mjs): the forced cells as the released guide's own fill.sh prints them over the translation 50f721b90a597681… (all of the seat's roots in one cut). By AI agents, Wed Nov 11 2026. No macro, syntax, notation, axiom, sorry.
-/
import Derived.Test.YtckbogdgiieddaaChecked
import GoSem.Claim
import GoSem.ClaimJoined
import GoSem.ClaimMapViews
import Derived.JoinedTies
import Derived.KernelRfl
namespace Go.Proofs.Ytckbogdgiieddaa
/- THE CELL 'sum', in the pinned program and in every row, IS THE sha256 OF THE DUMP (.gsa) THAT YtckbogdgiieddaaProg.lean LOADS. Nothing in Lean hashes anything: it is a label: what it is worth is what the hold of that sum in a sandbox is worth. -/
noncomputable def Try.pinned : Pinned := { name := "ytckbogdgiieddaa", sum := "50f721b90a59768123df518212e3a914bcf38e6fe12b86752a7991ab5c2c51d8", checked := Try.checked }
namespace Rows
def none {H : Type} : Left H := { results := [], args := [] }

/-- 'hypogeumlaw06.OnetimeTags': WHATEVER THE INPUT: true; the input reads as it did. -/
def onetimeTagsSpec : ChangeSpec := { name := "onetimeTags", fn := fun _ => fun
  | [d1, d2] => { results := [.lit (.bool true)], args := [d1, d2] }
  | _ => none }
def onetimeTagsRow : OpenClaim := { program := "ytckbogdgiieddaa", sum := "50f721b90a59768123df518212e3a914bcf38e6fe12b86752a7991ab5c2c51d8", func := "hypogeum/hypogeumlaw06.OnetimeTags", spec := "onetimeTags", apart := false }
def OnetimeTagsSaid : Prop := onetimeTagsRow.holds Try.pinned (OpenSpec.ofChange onetimeTagsSpec)

/-- ITS FALSE NEIGHBOUR: 'it returns false'. Refute it at one input. -/
def onetimeTagsWrong : ChangeSpec := { name := "onetimeTags", fn := fun _ => fun
  | [d1, d2] => { results := [.lit (.bool false)], args := [d1, d2] }
  | _ => none }
def OnetimeTagsWrongFalsely : Prop := onetimeTagsRow.holds Try.pinned (OpenSpec.ofChange onetimeTagsWrong)

/-- 'hypogeumlaw06.OnetimeAdds': WHATEVER THE INPUT: true; the input reads as it did. -/
def onetimeAddsSpec : ChangeSpec := { name := "onetimeAdds", fn := fun _ => fun
  | [d1, d2] => { results := [.lit (.bool true)], args := [d1, d2] }
  | _ => none }
def onetimeAddsRow : OpenClaim := { program := "ytckbogdgiieddaa", sum := "50f721b90a59768123df518212e3a914bcf38e6fe12b86752a7991ab5c2c51d8", func := "hypogeum/hypogeumlaw06.OnetimeAdds", spec := "onetimeAdds", apart := false }
def OnetimeAddsSaid : Prop := onetimeAddsRow.holds Try.pinned (OpenSpec.ofChange onetimeAddsSpec)

/-- ITS FALSE NEIGHBOUR: 'it returns false'. Refute it at one input. -/
def onetimeAddsWrong : ChangeSpec := { name := "onetimeAdds", fn := fun _ => fun
  | [d1, d2] => { results := [.lit (.bool false)], args := [d1, d2] }
  | _ => none }
def OnetimeAddsWrongFalsely : Prop := onetimeAddsRow.holds Try.pinned (OpenSpec.ofChange onetimeAddsWrong)

/-- 'hypogeumlaw06.OnetimeBits': WHATEVER THE INPUT: true; the input reads as it did. -/
def onetimeBitsSpec : ChangeSpec := { name := "onetimeBits", fn := fun _ => fun
  | [d1, d2, d3] => { results := [.lit (.bool true)], args := [d1, d2, d3] }
  | _ => none }
def onetimeBitsRow : OpenClaim := { program := "ytckbogdgiieddaa", sum := "50f721b90a59768123df518212e3a914bcf38e6fe12b86752a7991ab5c2c51d8", func := "hypogeum/hypogeumlaw06.OnetimeBits", spec := "onetimeBits", apart := false }
def OnetimeBitsSaid : Prop := onetimeBitsRow.holds Try.pinned (OpenSpec.ofChange onetimeBitsSpec)

/-- ITS FALSE NEIGHBOUR: 'it returns false'. Refute it at one input. -/
def onetimeBitsWrong : ChangeSpec := { name := "onetimeBits", fn := fun _ => fun
  | [d1, d2, d3] => { results := [.lit (.bool false)], args := [d1, d2, d3] }
  | _ => none }
def OnetimeBitsWrongFalsely : Prop := onetimeBitsRow.holds Try.pinned (OpenSpec.ofChange onetimeBitsWrong)

/-- 'hypogeumlaw06.OnetimeNobody': WHATEVER THE INPUT: true; the input reads as it did. -/
def onetimeNobodySpec : ChangeSpec := { name := "onetimeNobody", fn := fun _ => fun
  | [d] => { results := [.lit (.bool true)], args := [d] }
  | _ => none }
def onetimeNobodyRow : OpenClaim := { program := "ytckbogdgiieddaa", sum := "50f721b90a59768123df518212e3a914bcf38e6fe12b86752a7991ab5c2c51d8", func := "hypogeum/hypogeumlaw06.OnetimeNobody", spec := "onetimeNobody", apart := false }
def OnetimeNobodySaid : Prop := onetimeNobodyRow.holds Try.pinned (OpenSpec.ofChange onetimeNobodySpec)

/-- ITS FALSE NEIGHBOUR: 'it returns false'. Refute it at one input. -/
def onetimeNobodyWrong : ChangeSpec := { name := "onetimeNobody", fn := fun _ => fun
  | [d] => { results := [.lit (.bool false)], args := [d] }
  | _ => none }
def OnetimeNobodyWrongFalsely : Prop := onetimeNobodyRow.holds Try.pinned (OpenSpec.ofChange onetimeNobodyWrong)

/- THE SECOND FORM. 'bulk': how many values and letters a reading holds, each counted each time it is reached (what is shared counts as often as it is met; a slice's spare places count too). A statement '..UptoSaid' is the law's where the arguments, and the package variables that the reading takes, are together of bulk at most 1048576: NARROWER than '..Said'. Prove '..Said' where nothing that the law and all that it calls make is longer than what came in: it says more and counts as full. Else prove '..UptoSaid'. A law counts once. -/
mutual
def uptoBulk {H : Type} : DataW H → Nat
  | .lit (.string bytes) => bytes.length + 1
  | .lit _ => 1
  | .nil => 1
  | .ptr d => uptoBulk d + 1
  | .slice elems spare => uptoBulkAll elems + uptoBulkAll spare + 1
  | .agg parts => uptoBulkAll parts + 1
  | .iface _ d => uptoBulk d + 1
  | .map entries => uptoBulkEntries entries + 1
  | .held _ => 1
def uptoBulkAll {H : Type} : List (DataW H) → Nat
  | [] => 0
  | d :: r => uptoBulk d + uptoBulkAll r
def uptoBulkEntries {H : Type} : List (Lit × DataW H) → Nat
  | [] => 0
  | x :: r => uptoBulkEntry x + uptoBulkEntries r
def uptoBulkEntry {H : Type} : Lit × DataW H → Nat
  | (.string bytes, d) => bytes.length + uptoBulk d + 1
  | (_, d) => uptoBulk d + 1
 end
def uptoSmall : (H : Type) → List (DataW H) → Bool := fun _ ds => decide (uptoBulkAll ds ≤ 1048576)
def OpenSpec.upto (s : _root_.Go.ChangeSpec) : _root_.Go.OpenSpec := { _root_.Go.OpenSpec.ofChange s with cond := some uptoSmall }

/-- 'hypogeumlaw06.OnetimeTags', WHERE WHAT IT READS IS OF BULK AT MOST 1048576: true; the input reads as it did. -/
def onetimeTagsUptoRow : OpenClaim := { program := "ytckbogdgiieddaa", sum := "50f721b90a59768123df518212e3a914bcf38e6fe12b86752a7991ab5c2c51d8", func := "hypogeum/hypogeumlaw06.OnetimeTags", spec := "onetimeTags", apart := false, narrowed := true }
def OnetimeTagsUptoSaid : Prop := onetimeTagsUptoRow.holds Try.pinned (OpenSpec.upto onetimeTagsSpec)

/-- 'hypogeumlaw06.OnetimeAdds', WHERE WHAT IT READS IS OF BULK AT MOST 1048576: true; the input reads as it did. -/
def onetimeAddsUptoRow : OpenClaim := { program := "ytckbogdgiieddaa", sum := "50f721b90a59768123df518212e3a914bcf38e6fe12b86752a7991ab5c2c51d8", func := "hypogeum/hypogeumlaw06.OnetimeAdds", spec := "onetimeAdds", apart := false, narrowed := true }
def OnetimeAddsUptoSaid : Prop := onetimeAddsUptoRow.holds Try.pinned (OpenSpec.upto onetimeAddsSpec)

/-- 'hypogeumlaw06.OnetimeBits', WHERE WHAT IT READS IS OF BULK AT MOST 1048576: true; the input reads as it did. -/
def onetimeBitsUptoRow : OpenClaim := { program := "ytckbogdgiieddaa", sum := "50f721b90a59768123df518212e3a914bcf38e6fe12b86752a7991ab5c2c51d8", func := "hypogeum/hypogeumlaw06.OnetimeBits", spec := "onetimeBits", apart := false, narrowed := true }
def OnetimeBitsUptoSaid : Prop := onetimeBitsUptoRow.holds Try.pinned (OpenSpec.upto onetimeBitsSpec)

/-- 'hypogeumlaw06.OnetimeNobody', WHERE WHAT IT READS IS OF BULK AT MOST 1048576: true; the input reads as it did. -/
def onetimeNobodyUptoRow : OpenClaim := { program := "ytckbogdgiieddaa", sum := "50f721b90a59768123df518212e3a914bcf38e6fe12b86752a7991ab5c2c51d8", func := "hypogeum/hypogeumlaw06.OnetimeNobody", spec := "onetimeNobody", apart := false, narrowed := true }
def OnetimeNobodyUptoSaid : Prop := onetimeNobodyUptoRow.holds Try.pinned (OpenSpec.upto onetimeNobodySpec)

end Rows
end Go.Proofs.Ytckbogdgiieddaa
