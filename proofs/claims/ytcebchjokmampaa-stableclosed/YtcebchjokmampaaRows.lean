/-
  No cell of these rows narrows 'for every input' (looked for: loops, veiled, ifaces, maps, wideKeys, modest, calm, conditions, laid).
  DERIVED. THE GIVEN ROWS OF THIS SEAT. 4 by the template 'for every input the law returns true; each argument reads behind the call as it read before'; 0 by the template 'total and deterministic' (their statements: YtcebchjokmampaaTotals.lean).
  GIVEN WITH THE SEED: the statements are not yours to turn. If you find one false, say at which input.
  Laid BY PROGRAM, IN A SANDBOX (cutbox-rows.mjs): the forced cells as the released guide's own fill.sh prints them over the translation 20a2f4fde5fab52c… (all of the seat's roots in one cut). By AI agents, Wed Nov 11 2026. No macro, syntax, notation, axiom, sorry.
-/
import Derived.Test.YtcebchjokmampaaChecked
import GoSem.Claim
import GoSem.ClaimJoined
import GoSem.ClaimMapViews
import Derived.JoinedTies
import Derived.KernelRfl
namespace Go.Proofs.Ytcebchjokmampaa
/- THE CELL 'sum', in the pinned program and in every row, IS THE sha256 OF THE DUMP (.gsa) THAT YtcebchjokmampaaProg.lean LOADS. Nothing in Lean hashes anything: it is a label: what it is worth is what the hold of that sum in a sandbox is worth. -/
noncomputable def Try.pinned : Pinned := { name := "ytcebchjokmampaa", sum := "20a2f4fde5fab52cd9d33c8df98745eb8e9a1ce23eee08562a1488d51922f768", checked := Try.checked }
namespace Rows
def none {H : Type} : Left H := { results := [], args := [] }

/-- 'plexuslaw20.StableAll': WHATEVER THE INPUT: true; the input reads as it did. -/
def stableAllSpec : ChangeSpec := { name := "stableAll", fn := fun _ => fun
  | [d1, d2, d3, d4] => { results := [.lit (.bool true)], args := [d1, d2, d3, d4] }
  | _ => none }
def stableAllRow : OpenClaim := { program := "ytcebchjokmampaa", sum := "20a2f4fde5fab52cd9d33c8df98745eb8e9a1ce23eee08562a1488d51922f768", func := "plexus/plexuslaw20.StableAll", spec := "stableAll", apart := false }
def StableAllSaid : Prop := stableAllRow.holds Try.pinned (OpenSpec.ofChange stableAllSpec)

/-- ITS FALSE NEIGHBOUR: 'it returns false'. Refute it at one input. -/
def stableAllWrong : ChangeSpec := { name := "stableAll", fn := fun _ => fun
  | [d1, d2, d3, d4] => { results := [.lit (.bool false)], args := [d1, d2, d3, d4] }
  | _ => none }
def StableAllWrongFalsely : Prop := stableAllRow.holds Try.pinned (OpenSpec.ofChange stableAllWrong)

/-- 'plexuslaw20.StableTells': WHATEVER THE INPUT: true; the input reads as it did. -/
def stableTellsSpec : ChangeSpec := { name := "stableTells", fn := fun _ => fun
  | [d1, d2, d3, d4, d5] => { results := [.lit (.bool true)], args := [d1, d2, d3, d4, d5] }
  | _ => none }
def stableTellsRow : OpenClaim := { program := "ytcebchjokmampaa", sum := "20a2f4fde5fab52cd9d33c8df98745eb8e9a1ce23eee08562a1488d51922f768", func := "plexus/plexuslaw20.StableTells", spec := "stableTells", apart := false }
def StableTellsSaid : Prop := stableTellsRow.holds Try.pinned (OpenSpec.ofChange stableTellsSpec)

/-- ITS FALSE NEIGHBOUR: 'it returns false'. Refute it at one input. -/
def stableTellsWrong : ChangeSpec := { name := "stableTells", fn := fun _ => fun
  | [d1, d2, d3, d4, d5] => { results := [.lit (.bool false)], args := [d1, d2, d3, d4, d5] }
  | _ => none }
def StableTellsWrongFalsely : Prop := stableTellsRow.holds Try.pinned (OpenSpec.ofChange stableTellsWrong)

/-- 'plexuslaw20.StableBelow': WHATEVER THE INPUT: true; the input reads as it did. -/
def stableBelowSpec : ChangeSpec := { name := "stableBelow", fn := fun _ => fun
  | [d1, d2, d3, d4, d5, d6] => { results := [.lit (.bool true)], args := [d1, d2, d3, d4, d5, d6] }
  | _ => none }
def stableBelowRow : OpenClaim := { program := "ytcebchjokmampaa", sum := "20a2f4fde5fab52cd9d33c8df98745eb8e9a1ce23eee08562a1488d51922f768", func := "plexus/plexuslaw20.StableBelow", spec := "stableBelow", apart := false }
def StableBelowSaid : Prop := stableBelowRow.holds Try.pinned (OpenSpec.ofChange stableBelowSpec)

/-- ITS FALSE NEIGHBOUR: 'it returns false'. Refute it at one input. -/
def stableBelowWrong : ChangeSpec := { name := "stableBelow", fn := fun _ => fun
  | [d1, d2, d3, d4, d5, d6] => { results := [.lit (.bool false)], args := [d1, d2, d3, d4, d5, d6] }
  | _ => none }
def StableBelowWrongFalsely : Prop := stableBelowRow.holds Try.pinned (OpenSpec.ofChange stableBelowWrong)

/-- 'plexuslaw20.StableClosed': WHATEVER THE INPUT: true; the input reads as it did. -/
def stableClosedSpec : ChangeSpec := { name := "stableClosed", fn := fun _ => fun
  | [d1, d2, d3] => { results := [.lit (.bool true)], args := [d1, d2, d3] }
  | _ => none }
def stableClosedRow : OpenClaim := { program := "ytcebchjokmampaa", sum := "20a2f4fde5fab52cd9d33c8df98745eb8e9a1ce23eee08562a1488d51922f768", func := "plexus/plexuslaw20.StableClosed", spec := "stableClosed", apart := false }
def StableClosedSaid : Prop := stableClosedRow.holds Try.pinned (OpenSpec.ofChange stableClosedSpec)

/-- ITS FALSE NEIGHBOUR: 'it returns false'. Refute it at one input. -/
def stableClosedWrong : ChangeSpec := { name := "stableClosed", fn := fun _ => fun
  | [d1, d2, d3] => { results := [.lit (.bool false)], args := [d1, d2, d3] }
  | _ => none }
def StableClosedWrongFalsely : Prop := stableClosedRow.holds Try.pinned (OpenSpec.ofChange stableClosedWrong)

/- THE SECOND FORM. 'bulk': how many values and letters a reading holds, each counted each time it is reached (what is shared counts as often as it is met; a slice's spare places count too). A statement '..UptoSaid' is the law's where the arguments, and the package variables that the reading takes, are together of bulk at most 1048576: NARROWER than '..Said'. Prove '..Said' where nothing that the law and all that it calls make is longer than what came in: it says more and counts as full. Else prove '..UptoSaid'. A law counts once. -/
mutual
def uptoBulk {H : Type} : DataW H → Nat
  | .lit (.string bytes) => bytes.length + 1
  | .lit _ => 1
  | .nil => 1
  | .ptr d => uptoBulk d + 1
  | .slice elems spare => uptoBulkAll elems + uptoBulkAll spare + 1
  | .agg parts => uptoBulkAll parts + 1
  | .iface _ d => uptoBulk d + 1
  | .map entries => uptoBulkEntries entries + 1
  | .held _ => 1
def uptoBulkAll {H : Type} : List (DataW H) → Nat
  | [] => 0
  | d :: r => uptoBulk d + uptoBulkAll r
def uptoBulkEntries {H : Type} : List (Lit × DataW H) → Nat
  | [] => 0
  | x :: r => uptoBulkEntry x + uptoBulkEntries r
def uptoBulkEntry {H : Type} : Lit × DataW H → Nat
  | (.string bytes, d) => bytes.length + uptoBulk d + 1
  | (_, d) => uptoBulk d + 1
 end
def uptoSmall : (H : Type) → List (DataW H) → Bool := fun _ ds => decide (uptoBulkAll ds ≤ 1048576)
def OpenSpec.upto (s : _root_.Go.ChangeSpec) : _root_.Go.OpenSpec := { _root_.Go.OpenSpec.ofChange s with cond := some uptoSmall }

/-- 'plexuslaw20.StableAll', WHERE WHAT IT READS IS OF BULK AT MOST 1048576: true; the input reads as it did. -/
def stableAllUptoRow : OpenClaim := { program := "ytcebchjokmampaa", sum := "20a2f4fde5fab52cd9d33c8df98745eb8e9a1ce23eee08562a1488d51922f768", func := "plexus/plexuslaw20.StableAll", spec := "stableAll", apart := false, narrowed := true }
def StableAllUptoSaid : Prop := stableAllUptoRow.holds Try.pinned (OpenSpec.upto stableAllSpec)

/-- 'plexuslaw20.StableTells', WHERE WHAT IT READS IS OF BULK AT MOST 1048576: true; the input reads as it did. -/
def stableTellsUptoRow : OpenClaim := { program := "ytcebchjokmampaa", sum := "20a2f4fde5fab52cd9d33c8df98745eb8e9a1ce23eee08562a1488d51922f768", func := "plexus/plexuslaw20.StableTells", spec := "stableTells", apart := false, narrowed := true }
def StableTellsUptoSaid : Prop := stableTellsUptoRow.holds Try.pinned (OpenSpec.upto stableTellsSpec)

/-- 'plexuslaw20.StableBelow', WHERE WHAT IT READS IS OF BULK AT MOST 1048576: true; the input reads as it did. -/
def stableBelowUptoRow : OpenClaim := { program := "ytcebchjokmampaa", sum := "20a2f4fde5fab52cd9d33c8df98745eb8e9a1ce23eee08562a1488d51922f768", func := "plexus/plexuslaw20.StableBelow", spec := "stableBelow", apart := false, narrowed := true }
def StableBelowUptoSaid : Prop := stableBelowUptoRow.holds Try.pinned (OpenSpec.upto stableBelowSpec)

/-- 'plexuslaw20.StableClosed', WHERE WHAT IT READS IS OF BULK AT MOST 1048576: true; the input reads as it did. -/
def stableClosedUptoRow : OpenClaim := { program := "ytcebchjokmampaa", sum := "20a2f4fde5fab52cd9d33c8df98745eb8e9a1ce23eee08562a1488d51922f768", func := "plexus/plexuslaw20.StableClosed", spec := "stableClosed", apart := false, narrowed := true }
def StableClosedUptoSaid : Prop := stableClosedUptoRow.holds Try.pinned (OpenSpec.upto stableClosedSpec)

end Rows
end Go.Proofs.Ytcebchjokmampaa
