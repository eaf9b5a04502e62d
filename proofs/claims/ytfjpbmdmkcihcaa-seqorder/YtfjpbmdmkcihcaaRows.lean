/-
  No cell of these rows narrows 'for every input' (looked for: loops, veiled, ifaces, maps, wideKeys, modest, calm, conditions, laid).
  DERIVED. THE GIVEN ROWS OF THIS SEAT. 4 by the template 'for every input the law returns true; each argument reads behind the call as it read before'; 0 by the template 'total and deterministic' (their statements: YtfjpbmdmkcihcaaTotals.lean).
  GIVEN WITH THE SEED: the statements are not yours to turn. If you find one false, say at which input.
  Laid BY PROGRAM, IN A SANDBOX (cutbox-rows.mjs): the forced cells as the released guide's own fill.sh prints them over the translation 3cb4c9d80ea9bd14… (all of the seat's roots in one cut). By AI agents, Wed Nov 11 2026. No macro, syntax, notation, axiom, sorry.
-/
import Derived.Test.YtfjpbmdmkcihcaaChecked
import GoSem.Claim
import GoSem.ClaimJoined
import GoSem.ClaimMapViews
import Derived.JoinedTies
import Derived.KernelRfl
namespace Go.Proofs.Ytfjpbmdmkcihcaa
/- THE CELL 'sum', in the pinned program and in every row, IS THE sha256 OF THE DUMP (.gsa) THAT YtfjpbmdmkcihcaaProg.lean LOADS. Nothing in Lean hashes anything: it is a label: what it is worth is what the hold of that sum in a sandbox is worth. -/
noncomputable def Try.pinned : Pinned := { name := "ytfjpbmdmkcihcaa", sum := "3cb4c9d80ea9bd14fedd7f687406f74441003c52dc22365455a722ddd2e20ef6", checked := Try.checked }
namespace Rows
def none {H : Type} : Left H := { results := [], args := [] }

/-- 'plexuslaw11.SeqSees': WHATEVER THE INPUT: true; the input reads as it did. -/
def seqSeesSpec : ChangeSpec := { name := "seqSees", fn := fun _ => fun
  | [d1, d2, d3, d4] => { results := [.lit (.bool true)], args := [d1, d2, d3, d4] }
  | _ => none }
def seqSeesRow : OpenClaim := { program := "ytfjpbmdmkcihcaa", sum := "3cb4c9d80ea9bd14fedd7f687406f74441003c52dc22365455a722ddd2e20ef6", func := "plexus/plexuslaw11.SeqSees", spec := "seqSees", inPlace := ["slices.overlaps[plexus/api.Elem]", "slices.overlaps[plexus/api.Mark]"], unfollowed := true, recurses := true, apart := false }
def SeqSeesSaid : Prop := seqSeesRow.holds Try.pinned (OpenSpec.ofChange seqSeesSpec)

/-- ITS FALSE NEIGHBOUR: 'it returns false'. Refute it at one input. -/
def seqSeesWrong : ChangeSpec := { name := "seqSees", fn := fun _ => fun
  | [d1, d2, d3, d4] => { results := [.lit (.bool false)], args := [d1, d2, d3, d4] }
  | _ => none }
def SeqSeesWrongFalsely : Prop := seqSeesRow.holds Try.pinned (OpenSpec.ofChange seqSeesWrong)

/-- 'plexuslaw11.SeqOrder': WHATEVER THE INPUT: true; the input reads as it did. -/
def seqOrderSpec : ChangeSpec := { name := "seqOrder", fn := fun _ => fun
  | [d1, d2, d3, d4, d5] => { results := [.lit (.bool true)], args := [d1, d2, d3, d4, d5] }
  | _ => none }
def seqOrderRow : OpenClaim := { program := "ytfjpbmdmkcihcaa", sum := "3cb4c9d80ea9bd14fedd7f687406f74441003c52dc22365455a722ddd2e20ef6", func := "plexus/plexuslaw11.SeqOrder", spec := "seqOrder", inPlace := ["slices.overlaps[plexus/api.Elem]", "slices.overlaps[plexus/api.Mark]"], unfollowed := true, recurses := true, apart := false }
def SeqOrderSaid : Prop := seqOrderRow.holds Try.pinned (OpenSpec.ofChange seqOrderSpec)

/-- ITS FALSE NEIGHBOUR: 'it returns false'. Refute it at one input. -/
def seqOrderWrong : ChangeSpec := { name := "seqOrder", fn := fun _ => fun
  | [d1, d2, d3, d4, d5] => { results := [.lit (.bool false)], args := [d1, d2, d3, d4, d5] }
  | _ => none }
def SeqOrderWrongFalsely : Prop := seqOrderRow.holds Try.pinned (OpenSpec.ofChange seqOrderWrong)

/-- 'plexuslaw11.SeqFolds': WHATEVER THE INPUT: true; the input reads as it did. -/
def seqFoldsSpec : ChangeSpec := { name := "seqFolds", fn := fun _ => fun
  | [d1, d2, d3, d4] => { results := [.lit (.bool true)], args := [d1, d2, d3, d4] }
  | _ => none }
def seqFoldsRow : OpenClaim := { program := "ytfjpbmdmkcihcaa", sum := "3cb4c9d80ea9bd14fedd7f687406f74441003c52dc22365455a722ddd2e20ef6", func := "plexus/plexuslaw11.SeqFolds", spec := "seqFolds", inPlace := ["slices.overlaps[plexus/api.Elem]", "slices.overlaps[plexus/api.Mark]"], unfollowed := true, recurses := true, apart := false }
def SeqFoldsSaid : Prop := seqFoldsRow.holds Try.pinned (OpenSpec.ofChange seqFoldsSpec)

/-- ITS FALSE NEIGHBOUR: 'it returns false'. Refute it at one input. -/
def seqFoldsWrong : ChangeSpec := { name := "seqFolds", fn := fun _ => fun
  | [d1, d2, d3, d4] => { results := [.lit (.bool false)], args := [d1, d2, d3, d4] }
  | _ => none }
def SeqFoldsWrongFalsely : Prop := seqFoldsRow.holds Try.pinned (OpenSpec.ofChange seqFoldsWrong)

/-- 'plexuslaw11.SeqGoes': WHATEVER THE INPUT: true; the input reads as it did. -/
def seqGoesSpec : ChangeSpec := { name := "seqGoes", fn := fun _ => fun
  | [d1, d2, d3] => { results := [.lit (.bool true)], args := [d1, d2, d3] }
  | _ => none }
def seqGoesRow : OpenClaim := { program := "ytfjpbmdmkcihcaa", sum := "3cb4c9d80ea9bd14fedd7f687406f74441003c52dc22365455a722ddd2e20ef6", func := "plexus/plexuslaw11.SeqGoes", spec := "seqGoes", inPlace := ["slices.overlaps[plexus/api.Elem]", "slices.overlaps[plexus/api.Mark]"], unfollowed := true, recurses := true, apart := false }
def SeqGoesSaid : Prop := seqGoesRow.holds Try.pinned (OpenSpec.ofChange seqGoesSpec)

/-- ITS FALSE NEIGHBOUR: 'it returns false'. Refute it at one input. -/
def seqGoesWrong : ChangeSpec := { name := "seqGoes", fn := fun _ => fun
  | [d1, d2, d3] => { results := [.lit (.bool false)], args := [d1, d2, d3] }
  | _ => none }
def SeqGoesWrongFalsely : Prop := seqGoesRow.holds Try.pinned (OpenSpec.ofChange seqGoesWrong)

/- THE SECOND FORM. 'bulk': how many values and letters a reading holds, each counted each time it is reached (what is shared counts as often as it is met; a slice's spare places count too). A statement '..UptoSaid' is the law's where the arguments, and the package variables that the reading takes, are together of bulk at most 1048576: NARROWER than '..Said'. Prove '..Said' where nothing that the law and all that it calls make is longer than what came in: it says more and counts as full. Else prove '..UptoSaid'. A law counts once. -/
mutual
def uptoBulk {H : Type} : DataW H → Nat
  | .lit (.string bytes) => bytes.length + 1
  | .lit _ => 1
  | .nil => 1
  | .ptr d => uptoBulk d + 1
  | .slice elems spare => uptoBulkAll elems + uptoBulkAll spare + 1
  | .agg parts => uptoBulkAll parts + 1
  | .iface _ d => uptoBulk d + 1
  | .map entries => uptoBulkEntries entries + 1
  | .held _ => 1
def uptoBulkAll {H : Type} : List (DataW H) → Nat
  | [] => 0
  | d :: r => uptoBulk d + uptoBulkAll r
def uptoBulkEntries {H : Type} : List (Lit × DataW H) → Nat
  | [] => 0
  | x :: r => uptoBulkEntry x + uptoBulkEntries r
def uptoBulkEntry {H : Type} : Lit × DataW H → Nat
  | (.string bytes, d) => bytes.length + uptoBulk d + 1
  | (_, d) => uptoBulk d + 1
 end
def uptoSmall : (H : Type) → List (DataW H) → Bool := fun _ ds => decide (uptoBulkAll ds ≤ 1048576)
def OpenSpec.upto (s : _root_.Go.ChangeSpec) : _root_.Go.OpenSpec := { _root_.Go.OpenSpec.ofChange s with cond := some uptoSmall }

/-- 'plexuslaw11.SeqSees', WHERE WHAT IT READS IS OF BULK AT MOST 1048576: true; the input reads as it did. -/
def seqSeesUptoRow : OpenClaim := { program := "ytfjpbmdmkcihcaa", sum := "3cb4c9d80ea9bd14fedd7f687406f74441003c52dc22365455a722ddd2e20ef6", func := "plexus/plexuslaw11.SeqSees", spec := "seqSees", inPlace := ["slices.overlaps[plexus/api.Elem]", "slices.overlaps[plexus/api.Mark]"], unfollowed := true, recurses := true, apart := false, narrowed := true }
def SeqSeesUptoSaid : Prop := seqSeesUptoRow.holds Try.pinned (OpenSpec.upto seqSeesSpec)

/-- 'plexuslaw11.SeqOrder', WHERE WHAT IT READS IS OF BULK AT MOST 1048576: true; the input reads as it did. -/
def seqOrderUptoRow : OpenClaim := { program := "ytfjpbmdmkcihcaa", sum := "3cb4c9d80ea9bd14fedd7f687406f74441003c52dc22365455a722ddd2e20ef6", func := "plexus/plexuslaw11.SeqOrder", spec := "seqOrder", inPlace := ["slices.overlaps[plexus/api.Elem]", "slices.overlaps[plexus/api.Mark]"], unfollowed := true, recurses := true, apart := false, narrowed := true }
def SeqOrderUptoSaid : Prop := seqOrderUptoRow.holds Try.pinned (OpenSpec.upto seqOrderSpec)

/-- 'plexuslaw11.SeqFolds', WHERE WHAT IT READS IS OF BULK AT MOST 1048576: true; the input reads as it did. -/
def seqFoldsUptoRow : OpenClaim := { program := "ytfjpbmdmkcihcaa", sum := "3cb4c9d80ea9bd14fedd7f687406f74441003c52dc22365455a722ddd2e20ef6", func := "plexus/plexuslaw11.SeqFolds", spec := "seqFolds", inPlace := ["slices.overlaps[plexus/api.Elem]", "slices.overlaps[plexus/api.Mark]"], unfollowed := true, recurses := true, apart := false, narrowed := true }
def SeqFoldsUptoSaid : Prop := seqFoldsUptoRow.holds Try.pinned (OpenSpec.upto seqFoldsSpec)

/-- 'plexuslaw11.SeqGoes', WHERE WHAT IT READS IS OF BULK AT MOST 1048576: true; the input reads as it did. -/
def seqGoesUptoRow : OpenClaim := { program := "ytfjpbmdmkcihcaa", sum := "3cb4c9d80ea9bd14fedd7f687406f74441003c52dc22365455a722ddd2e20ef6", func := "plexus/plexuslaw11.SeqGoes", spec := "seqGoes", inPlace := ["slices.overlaps[plexus/api.Elem]", "slices.overlaps[plexus/api.Mark]"], unfollowed := true, recurses := true, apart := false, narrowed := true }
def SeqGoesUptoSaid : Prop := seqGoesUptoRow.holds Try.pinned (OpenSpec.upto seqGoesSpec)

end Rows
end Go.Proofs.Ytfjpbmdmkcihcaa
