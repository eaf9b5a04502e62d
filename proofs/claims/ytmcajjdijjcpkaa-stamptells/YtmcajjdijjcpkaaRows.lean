/-
  NARROWER THAN 'FOR EVERY INPUT', by the rows' own cells (each row's printed sentence says how): StampJoins: loops · StampTells: loops · StampEvent: loops · StampApart: loops.
  DERIVED. THE GIVEN ROWS OF THIS SEAT. 4 by the template 'for every input the law returns true; each argument reads behind the call as it read before'; 0 by the template 'total and deterministic' (their statements: YtmcajjdijjcpkaaTotals.lean).
  GIVEN WITH THE SEED: the statements are not yours to turn. If you find one false, say at which input.
  Laid BY PROGRAM, IN A SANDBOX (cutbox-rows.mjs): the forced cells as the released guide's own fill.sh prints them over the translation 900fc9b9c89a8c12… (all of the seat's roots in one cut). By AI agents, Wed Nov 11 2026. No macro, syntax, notation, axiom, sorry.
-/
import Derived.Test.YtmcajjdijjcpkaaChecked
import GoSem.Claim
import GoSem.ClaimJoined
import GoSem.ClaimMapViews
import Derived.JoinedTies
import Derived.KernelRfl
namespace Go.Proofs.Ytmcajjdijjcpkaa
/- THE CELL 'sum', in the pinned program and in every row, IS THE sha256 OF THE DUMP (.gsa) THAT YtmcajjdijjcpkaaProg.lean LOADS. Nothing in Lean hashes anything: it is a label: what it is worth is what the hold of that sum in a sandbox is worth. -/
noncomputable def Try.pinned : Pinned := { name := "ytmcajjdijjcpkaa", sum := "900fc9b9c89a8c124c7681d59c3b2ea7ebead10a3fb4dd708d200480353ea9d3", checked := Try.checked }
namespace Rows
def none {H : Type} : Left H := { results := [], args := [] }

/-- 'plexuslaw06.StampJoins': WHATEVER THE INPUT: true; the input reads as it did. -/
def stampJoinsSpec : ChangeSpec := { name := "stampJoins", fn := fun _ => fun
  | [d1, d2] => { results := [.lit (.bool true)], args := [d1, d2] }
  | _ => none }
def stampJoinsRow : OpenClaim := { program := "ytmcajjdijjcpkaa", sum := "900fc9b9c89a8c124c7681d59c3b2ea7ebead10a3fb4dd708d200480353ea9d3", func := "plexus/plexuslaw06.StampJoins", spec := "stampJoins", unfollowed := true, recurses := true, loops := true, apart := false }
def StampJoinsSaid : Prop := stampJoinsRow.holds Try.pinned (OpenSpec.ofChange stampJoinsSpec)

/-- ITS FALSE NEIGHBOUR: 'it returns false'. Refute it at one input. -/
def stampJoinsWrong : ChangeSpec := { name := "stampJoins", fn := fun _ => fun
  | [d1, d2] => { results := [.lit (.bool false)], args := [d1, d2] }
  | _ => none }
def StampJoinsWrongFalsely : Prop := stampJoinsRow.holds Try.pinned (OpenSpec.ofChange stampJoinsWrong)

/-- 'plexuslaw06.StampTells': WHATEVER THE INPUT: true; the input reads as it did. -/
def stampTellsSpec : ChangeSpec := { name := "stampTells", fn := fun _ => fun
  | [d1, d2] => { results := [.lit (.bool true)], args := [d1, d2] }
  | _ => none }
def stampTellsRow : OpenClaim := { program := "ytmcajjdijjcpkaa", sum := "900fc9b9c89a8c124c7681d59c3b2ea7ebead10a3fb4dd708d200480353ea9d3", func := "plexus/plexuslaw06.StampTells", spec := "stampTells", unfollowed := true, recurses := true, loops := true, apart := false }
def StampTellsSaid : Prop := stampTellsRow.holds Try.pinned (OpenSpec.ofChange stampTellsSpec)

/-- ITS FALSE NEIGHBOUR: 'it returns false'. Refute it at one input. -/
def stampTellsWrong : ChangeSpec := { name := "stampTells", fn := fun _ => fun
  | [d1, d2] => { results := [.lit (.bool false)], args := [d1, d2] }
  | _ => none }
def StampTellsWrongFalsely : Prop := stampTellsRow.holds Try.pinned (OpenSpec.ofChange stampTellsWrong)

/-- 'plexuslaw06.StampEvent': WHATEVER THE INPUT: true; the input reads as it did. -/
def stampEventSpec : ChangeSpec := { name := "stampEvent", fn := fun _ => fun
  | [d1, d2] => { results := [.lit (.bool true)], args := [d1, d2] }
  | _ => none }
def stampEventRow : OpenClaim := { program := "ytmcajjdijjcpkaa", sum := "900fc9b9c89a8c124c7681d59c3b2ea7ebead10a3fb4dd708d200480353ea9d3", func := "plexus/plexuslaw06.StampEvent", spec := "stampEvent", unfollowed := true, recurses := true, loops := true, apart := false }
def StampEventSaid : Prop := stampEventRow.holds Try.pinned (OpenSpec.ofChange stampEventSpec)

/-- ITS FALSE NEIGHBOUR: 'it returns false'. Refute it at one input. -/
def stampEventWrong : ChangeSpec := { name := "stampEvent", fn := fun _ => fun
  | [d1, d2] => { results := [.lit (.bool false)], args := [d1, d2] }
  | _ => none }
def StampEventWrongFalsely : Prop := stampEventRow.holds Try.pinned (OpenSpec.ofChange stampEventWrong)

/-- 'plexuslaw06.StampApart': WHATEVER THE INPUT: true; the input reads as it did. -/
def stampApartSpec : ChangeSpec := { name := "stampApart", fn := fun _ => fun
  | [d] => { results := [.lit (.bool true)], args := [d] }
  | _ => none }
def stampApartRow : OpenClaim := { program := "ytmcajjdijjcpkaa", sum := "900fc9b9c89a8c124c7681d59c3b2ea7ebead10a3fb4dd708d200480353ea9d3", func := "plexus/plexuslaw06.StampApart", spec := "stampApart", unfollowed := true, recurses := true, loops := true, apart := false }
def StampApartSaid : Prop := stampApartRow.holds Try.pinned (OpenSpec.ofChange stampApartSpec)

/-- ITS FALSE NEIGHBOUR: 'it returns false'. Refute it at one input. -/
def stampApartWrong : ChangeSpec := { name := "stampApart", fn := fun _ => fun
  | [d] => { results := [.lit (.bool false)], args := [d] }
  | _ => none }
def StampApartWrongFalsely : Prop := stampApartRow.holds Try.pinned (OpenSpec.ofChange stampApartWrong)

/- THE SECOND FORM. 'bulk': how many values and letters a reading holds, each counted each time it is reached (what is shared counts as often as it is met; a slice's spare places count too). A statement '..UptoSaid' is the law's where the arguments, and the package variables that the reading takes, are together of bulk at most 1048576: NARROWER than '..Said'. Prove '..Said' where nothing that the law and all that it calls make is longer than what came in: it says more and counts as full. Else prove '..UptoSaid'. A law counts once. -/
mutual
def uptoBulk {H : Type} : DataW H → Nat
  | .lit (.string bytes) => bytes.length + 1
  | .lit _ => 1
  | .nil => 1
  | .ptr d => uptoBulk d + 1
  | .slice elems spare => uptoBulkAll elems + uptoBulkAll spare + 1
  | .agg parts => uptoBulkAll parts + 1
  | .iface _ d => uptoBulk d + 1
  | .map entries => uptoBulkEntries entries + 1
  | .held _ => 1
def uptoBulkAll {H : Type} : List (DataW H) → Nat
  | [] => 0
  | d :: r => uptoBulk d + uptoBulkAll r
def uptoBulkEntries {H : Type} : List (Lit × DataW H) → Nat
  | [] => 0
  | x :: r => uptoBulkEntry x + uptoBulkEntries r
def uptoBulkEntry {H : Type} : Lit × DataW H → Nat
  | (.string bytes, d) => bytes.length + uptoBulk d + 1
  | (_, d) => uptoBulk d + 1
 end
def uptoSmall : (H : Type) → List (DataW H) → Bool := fun _ ds => decide (uptoBulkAll ds ≤ 1048576)
def OpenSpec.upto (s : _root_.Go.ChangeSpec) : _root_.Go.OpenSpec := { _root_.Go.OpenSpec.ofChange s with cond := some uptoSmall }

/-- 'plexuslaw06.StampJoins', WHERE WHAT IT READS IS OF BULK AT MOST 1048576: true; the input reads as it did. -/
def stampJoinsUptoRow : OpenClaim := { program := "ytmcajjdijjcpkaa", sum := "900fc9b9c89a8c124c7681d59c3b2ea7ebead10a3fb4dd708d200480353ea9d3", func := "plexus/plexuslaw06.StampJoins", spec := "stampJoins", unfollowed := true, recurses := true, loops := true, apart := false, narrowed := true }
def StampJoinsUptoSaid : Prop := stampJoinsUptoRow.holds Try.pinned (OpenSpec.upto stampJoinsSpec)

/-- 'plexuslaw06.StampTells', WHERE WHAT IT READS IS OF BULK AT MOST 1048576: true; the input reads as it did. -/
def stampTellsUptoRow : OpenClaim := { program := "ytmcajjdijjcpkaa", sum := "900fc9b9c89a8c124c7681d59c3b2ea7ebead10a3fb4dd708d200480353ea9d3", func := "plexus/plexuslaw06.StampTells", spec := "stampTells", unfollowed := true, recurses := true, loops := true, apart := false, narrowed := true }
def StampTellsUptoSaid : Prop := stampTellsUptoRow.holds Try.pinned (OpenSpec.upto stampTellsSpec)

/-- 'plexuslaw06.StampEvent', WHERE WHAT IT READS IS OF BULK AT MOST 1048576: true; the input reads as it did. -/
def stampEventUptoRow : OpenClaim := { program := "ytmcajjdijjcpkaa", sum := "900fc9b9c89a8c124c7681d59c3b2ea7ebead10a3fb4dd708d200480353ea9d3", func := "plexus/plexuslaw06.StampEvent", spec := "stampEvent", unfollowed := true, recurses := true, loops := true, apart := false, narrowed := true }
def StampEventUptoSaid : Prop := stampEventUptoRow.holds Try.pinned (OpenSpec.upto stampEventSpec)

/-- 'plexuslaw06.StampApart', WHERE WHAT IT READS IS OF BULK AT MOST 1048576: true; the input reads as it did. -/
def stampApartUptoRow : OpenClaim := { program := "ytmcajjdijjcpkaa", sum := "900fc9b9c89a8c124c7681d59c3b2ea7ebead10a3fb4dd708d200480353ea9d3", func := "plexus/plexuslaw06.StampApart", spec := "stampApart", unfollowed := true, recurses := true, loops := true, apart := false, narrowed := true }
def StampApartUptoSaid : Prop := stampApartUptoRow.holds Try.pinned (OpenSpec.upto stampApartSpec)

end Rows
end Go.Proofs.Ytmcajjdijjcpkaa
