/-
  No cell of these rows narrows 'for every input' (looked for: loops, veiled, ifaces, maps, wideKeys, modest, calm, conditions, laid).
  DERIVED. THE GIVEN ROWS OF THIS SEAT. 4 by the template 'for every input the law returns true; each argument reads behind the call as it read before'; 0 by the template 'total and deterministic' (their statements: YtfjpjodaaofgbaaTotals.lean).
  GIVEN WITH THE SEED: the statements are not yours to turn. If you find one false, say at which input.
  Laid BY PROGRAM, IN A SANDBOX (cutbox-rows.mjs): the forced cells as the released guide's own fill.sh prints them over the translation 0b0e6dccb585d8ef… (all of the seat's roots in one cut). By AI agents, Wed Nov 11 2026. No macro, syntax, notation, axiom, sorry.
-/
import Derived.Test.YtfjpjodaaofgbaaChecked
import GoSem.Claim
import GoSem.ClaimJoined
import GoSem.ClaimMapViews
import Derived.JoinedTies
import Derived.KernelRfl
namespace Go.Proofs.Ytfjpjodaaofgbaa
/- THE CELL 'sum', in the pinned program and in every row, IS THE sha256 OF THE DUMP (.gsa) THAT YtfjpjodaaofgbaaProg.lean LOADS. Nothing in Lean hashes anything: it is a label: what it is worth is what the hold of that sum in a sandbox is worth. -/
noncomputable def Try.pinned : Pinned := { name := "ytfjpjodaaofgbaa", sum := "0b0e6dccb585d8ef0457d3a58e005a9a6aa462614ccfebf76456847aacd725aa", checked := Try.checked }
namespace Rows
def none {H : Type} : Left H := { results := [], args := [] }

/-- 'plexuslaw08.CounterClears': WHATEVER THE INPUT: true; the input reads as it did. -/
def counterClearsSpec : ChangeSpec := { name := "counterClears", fn := fun _ => fun
  | [d1, d2, d3] => { results := [.lit (.bool true)], args := [d1, d2, d3] }
  | _ => none }
def counterClearsRow : OpenClaim := { program := "ytfjpjodaaofgbaa", sum := "0b0e6dccb585d8ef0457d3a58e005a9a6aa462614ccfebf76456847aacd725aa", func := "plexus/plexuslaw08.CounterClears", spec := "counterClears", inPlace := ["slices.overlaps[plexus/api.Amount]"], unfollowed := true, recurses := true, apart := false }
def CounterClearsSaid : Prop := counterClearsRow.holds Try.pinned (OpenSpec.ofChange counterClearsSpec)

/-- ITS FALSE NEIGHBOUR: 'it returns false'. Refute it at one input. -/
def counterClearsWrong : ChangeSpec := { name := "counterClears", fn := fun _ => fun
  | [d1, d2, d3] => { results := [.lit (.bool false)], args := [d1, d2, d3] }
  | _ => none }
def CounterClearsWrongFalsely : Prop := counterClearsRow.holds Try.pinned (OpenSpec.ofChange counterClearsWrong)

/-- 'plexuslaw08.CounterTells': WHATEVER THE INPUT: true; the input reads as it did. -/
def counterTellsSpec : ChangeSpec := { name := "counterTells", fn := fun _ => fun
  | [d1, d2, d3, d4, d5] => { results := [.lit (.bool true)], args := [d1, d2, d3, d4, d5] }
  | _ => none }
def counterTellsRow : OpenClaim := { program := "ytfjpjodaaofgbaa", sum := "0b0e6dccb585d8ef0457d3a58e005a9a6aa462614ccfebf76456847aacd725aa", func := "plexus/plexuslaw08.CounterTells", spec := "counterTells", inPlace := ["slices.overlaps[plexus/api.Amount]"], unfollowed := true, recurses := true, apart := false }
def CounterTellsSaid : Prop := counterTellsRow.holds Try.pinned (OpenSpec.ofChange counterTellsSpec)

/-- ITS FALSE NEIGHBOUR: 'it returns false'. Refute it at one input. -/
def counterTellsWrong : ChangeSpec := { name := "counterTells", fn := fun _ => fun
  | [d1, d2, d3, d4, d5] => { results := [.lit (.bool false)], args := [d1, d2, d3, d4, d5] }
  | _ => none }
def CounterTellsWrongFalsely : Prop := counterTellsRow.holds Try.pinned (OpenSpec.ofChange counterTellsWrong)

/-- 'plexuslaw08.CounterFolds': WHATEVER THE INPUT: true; the input reads as it did. -/
def counterFoldsSpec : ChangeSpec := { name := "counterFolds", fn := fun _ => fun
  | [d1, d2] => { results := [.lit (.bool true)], args := [d1, d2] }
  | _ => none }
def counterFoldsRow : OpenClaim := { program := "ytfjpjodaaofgbaa", sum := "0b0e6dccb585d8ef0457d3a58e005a9a6aa462614ccfebf76456847aacd725aa", func := "plexus/plexuslaw08.CounterFolds", spec := "counterFolds", inPlace := ["slices.overlaps[plexus/api.Amount]"], unfollowed := true, recurses := true, apart := false }
def CounterFoldsSaid : Prop := counterFoldsRow.holds Try.pinned (OpenSpec.ofChange counterFoldsSpec)

/-- ITS FALSE NEIGHBOUR: 'it returns false'. Refute it at one input. -/
def counterFoldsWrong : ChangeSpec := { name := "counterFolds", fn := fun _ => fun
  | [d1, d2] => { results := [.lit (.bool false)], args := [d1, d2] }
  | _ => none }
def CounterFoldsWrongFalsely : Prop := counterFoldsRow.holds Try.pinned (OpenSpec.ofChange counterFoldsWrong)

/-- 'plexuslaw08.CounterOrder': WHATEVER THE INPUT: true; the input reads as it did. -/
def counterOrderSpec : ChangeSpec := { name := "counterOrder", fn := fun _ => fun
  | [d1, d2, d3, d4, d5] => { results := [.lit (.bool true)], args := [d1, d2, d3, d4, d5] }
  | _ => none }
def counterOrderRow : OpenClaim := { program := "ytfjpjodaaofgbaa", sum := "0b0e6dccb585d8ef0457d3a58e005a9a6aa462614ccfebf76456847aacd725aa", func := "plexus/plexuslaw08.CounterOrder", spec := "counterOrder", inPlace := ["slices.overlaps[plexus/api.Amount]"], unfollowed := true, recurses := true, apart := false }
def CounterOrderSaid : Prop := counterOrderRow.holds Try.pinned (OpenSpec.ofChange counterOrderSpec)

/-- ITS FALSE NEIGHBOUR: 'it returns false'. Refute it at one input. -/
def counterOrderWrong : ChangeSpec := { name := "counterOrder", fn := fun _ => fun
  | [d1, d2, d3, d4, d5] => { results := [.lit (.bool false)], args := [d1, d2, d3, d4, d5] }
  | _ => none }
def CounterOrderWrongFalsely : Prop := counterOrderRow.holds Try.pinned (OpenSpec.ofChange counterOrderWrong)

/- THE SECOND FORM. 'bulk': how many values and letters a reading holds, each counted each time it is reached (what is shared counts as often as it is met; a slice's spare places count too). A statement '..UptoSaid' is the law's where the arguments, and the package variables that the reading takes, are together of bulk at most 1048576: NARROWER than '..Said'. Prove '..Said' where nothing that the law and all that it calls make is longer than what came in: it says more and counts as full. Else prove '..UptoSaid'. A law counts once. -/
mutual
def uptoBulk {H : Type} : DataW H → Nat
  | .lit (.string bytes) => bytes.length + 1
  | .lit _ => 1
  | .nil => 1
  | .ptr d => uptoBulk d + 1
  | .slice elems spare => uptoBulkAll elems + uptoBulkAll spare + 1
  | .agg parts => uptoBulkAll parts + 1
  | .iface _ d => uptoBulk d + 1
  | .map entries => uptoBulkEntries entries + 1
  | .held _ => 1
def uptoBulkAll {H : Type} : List (DataW H) → Nat
  | [] => 0
  | d :: r => uptoBulk d + uptoBulkAll r
def uptoBulkEntries {H : Type} : List (Lit × DataW H) → Nat
  | [] => 0
  | x :: r => uptoBulkEntry x + uptoBulkEntries r
def uptoBulkEntry {H : Type} : Lit × DataW H → Nat
  | (.string bytes, d) => bytes.length + uptoBulk d + 1
  | (_, d) => uptoBulk d + 1
 end
def uptoSmall : (H : Type) → List (DataW H) → Bool := fun _ ds => decide (uptoBulkAll ds ≤ 1048576)
def OpenSpec.upto (s : _root_.Go.ChangeSpec) : _root_.Go.OpenSpec := { _root_.Go.OpenSpec.ofChange s with cond := some uptoSmall }

/-- 'plexuslaw08.CounterClears', WHERE WHAT IT READS IS OF BULK AT MOST 1048576: true; the input reads as it did. -/
def counterClearsUptoRow : OpenClaim := { program := "ytfjpjodaaofgbaa", sum := "0b0e6dccb585d8ef0457d3a58e005a9a6aa462614ccfebf76456847aacd725aa", func := "plexus/plexuslaw08.CounterClears", spec := "counterClears", inPlace := ["slices.overlaps[plexus/api.Amount]"], unfollowed := true, recurses := true, apart := false, narrowed := true }
def CounterClearsUptoSaid : Prop := counterClearsUptoRow.holds Try.pinned (OpenSpec.upto counterClearsSpec)

/-- 'plexuslaw08.CounterTells', WHERE WHAT IT READS IS OF BULK AT MOST 1048576: true; the input reads as it did. -/
def counterTellsUptoRow : OpenClaim := { program := "ytfjpjodaaofgbaa", sum := "0b0e6dccb585d8ef0457d3a58e005a9a6aa462614ccfebf76456847aacd725aa", func := "plexus/plexuslaw08.CounterTells", spec := "counterTells", inPlace := ["slices.overlaps[plexus/api.Amount]"], unfollowed := true, recurses := true, apart := false, narrowed := true }
def CounterTellsUptoSaid : Prop := counterTellsUptoRow.holds Try.pinned (OpenSpec.upto counterTellsSpec)

/-- 'plexuslaw08.CounterFolds', WHERE WHAT IT READS IS OF BULK AT MOST 1048576: true; the input reads as it did. -/
def counterFoldsUptoRow : OpenClaim := { program := "ytfjpjodaaofgbaa", sum := "0b0e6dccb585d8ef0457d3a58e005a9a6aa462614ccfebf76456847aacd725aa", func := "plexus/plexuslaw08.CounterFolds", spec := "counterFolds", inPlace := ["slices.overlaps[plexus/api.Amount]"], unfollowed := true, recurses := true, apart := false, narrowed := true }
def CounterFoldsUptoSaid : Prop := counterFoldsUptoRow.holds Try.pinned (OpenSpec.upto counterFoldsSpec)

/-- 'plexuslaw08.CounterOrder', WHERE WHAT IT READS IS OF BULK AT MOST 1048576: true; the input reads as it did. -/
def counterOrderUptoRow : OpenClaim := { program := "ytfjpjodaaofgbaa", sum := "0b0e6dccb585d8ef0457d3a58e005a9a6aa462614ccfebf76456847aacd725aa", func := "plexus/plexuslaw08.CounterOrder", spec := "counterOrder", inPlace := ["slices.overlaps[plexus/api.Amount]"], unfollowed := true, recurses := true, apart := false, narrowed := true }
def CounterOrderUptoSaid : Prop := counterOrderUptoRow.holds Try.pinned (OpenSpec.upto counterOrderSpec)

end Rows
end Go.Proofs.Ytfjpjodaaofgbaa
