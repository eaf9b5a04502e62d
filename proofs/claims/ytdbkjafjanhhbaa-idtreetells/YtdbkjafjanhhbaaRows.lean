/-
  NARROWER THAN 'FOR EVERY INPUT', by the rows' own cells (each row's printed sentence says how): IdtreeTells: loops · IdtreeSplits: loops · IdtreeSums: loops · IdtreeNorms: loops.
  DERIVED. THE GIVEN ROWS OF THIS SEAT. 4 by the template 'for every input the law returns true; each argument reads behind the call as it read before'; 0 by the template 'total and deterministic' (their statements: YtdbkjafjanhhbaaTotals.lean).
  GIVEN WITH THE SEED: the statements are not yours to turn. If you find one false, say at which input.
  Laid BY PROGRAM, IN A SANDBOX (cutbox-rows.mjs): the forced cells as the released guide's own fill.sh prints them over the translation 7dcab956982e426f… (all of the seat's roots in one cut). By AI agents, Wed Nov 11 2026. No macro, syntax, notation, axiom, sorry.
-/
import Derived.Test.YtdbkjafjanhhbaaChecked
import GoSem.Claim
import GoSem.ClaimJoined
import GoSem.ClaimMapViews
import Derived.JoinedTies
import Derived.KernelRfl
namespace Go.Proofs.Ytdbkjafjanhhbaa
/- THE CELL 'sum', in the pinned program and in every row, IS THE sha256 OF THE DUMP (.gsa) THAT YtdbkjafjanhhbaaProg.lean LOADS. Nothing in Lean hashes anything: it is a label: what it is worth is what the hold of that sum in a sandbox is worth. -/
noncomputable def Try.pinned : Pinned := { name := "ytdbkjafjanhhbaa", sum := "7dcab956982e426f24da1630ecc6a491e92eb4d718613e1e192a5f6df62aaf27", checked := Try.checked }
namespace Rows
def none {H : Type} : Left H := { results := [], args := [] }

/-- 'plexuslaw04.IdtreeTells': WHATEVER THE INPUT: true; the input reads as it did. -/
def idtreeTellsSpec : ChangeSpec := { name := "idtreeTells", fn := fun _ => fun
  | [d1, d2, d3] => { results := [.lit (.bool true)], args := [d1, d2, d3] }
  | _ => none }
def idtreeTellsRow : OpenClaim := { program := "ytdbkjafjanhhbaa", sum := "7dcab956982e426f24da1630ecc6a491e92eb4d718613e1e192a5f6df62aaf27", func := "plexus/plexuslaw04.IdtreeTells", spec := "idtreeTells", unfollowed := true, recurses := true, loops := true, apart := false }
def IdtreeTellsSaid : Prop := idtreeTellsRow.holds Try.pinned (OpenSpec.ofChange idtreeTellsSpec)

/-- ITS FALSE NEIGHBOUR: 'it returns false'. Refute it at one input. -/
def idtreeTellsWrong : ChangeSpec := { name := "idtreeTells", fn := fun _ => fun
  | [d1, d2, d3] => { results := [.lit (.bool false)], args := [d1, d2, d3] }
  | _ => none }
def IdtreeTellsWrongFalsely : Prop := idtreeTellsRow.holds Try.pinned (OpenSpec.ofChange idtreeTellsWrong)

/-- 'plexuslaw04.IdtreeSplits': WHATEVER THE INPUT: true; the input reads as it did. -/
def idtreeSplitsSpec : ChangeSpec := { name := "idtreeSplits", fn := fun _ => fun
  | [d1, d2] => { results := [.lit (.bool true)], args := [d1, d2] }
  | _ => none }
def idtreeSplitsRow : OpenClaim := { program := "ytdbkjafjanhhbaa", sum := "7dcab956982e426f24da1630ecc6a491e92eb4d718613e1e192a5f6df62aaf27", func := "plexus/plexuslaw04.IdtreeSplits", spec := "idtreeSplits", unfollowed := true, recurses := true, loops := true, apart := false }
def IdtreeSplitsSaid : Prop := idtreeSplitsRow.holds Try.pinned (OpenSpec.ofChange idtreeSplitsSpec)

/-- ITS FALSE NEIGHBOUR: 'it returns false'. Refute it at one input. -/
def idtreeSplitsWrong : ChangeSpec := { name := "idtreeSplits", fn := fun _ => fun
  | [d1, d2] => { results := [.lit (.bool false)], args := [d1, d2] }
  | _ => none }
def IdtreeSplitsWrongFalsely : Prop := idtreeSplitsRow.holds Try.pinned (OpenSpec.ofChange idtreeSplitsWrong)

/-- 'plexuslaw04.IdtreeSums': WHATEVER THE INPUT: true; the input reads as it did. -/
def idtreeSumsSpec : ChangeSpec := { name := "idtreeSums", fn := fun _ => fun
  | [d1, d2, d3, d4] => { results := [.lit (.bool true)], args := [d1, d2, d3, d4] }
  | _ => none }
def idtreeSumsRow : OpenClaim := { program := "ytdbkjafjanhhbaa", sum := "7dcab956982e426f24da1630ecc6a491e92eb4d718613e1e192a5f6df62aaf27", func := "plexus/plexuslaw04.IdtreeSums", spec := "idtreeSums", unfollowed := true, recurses := true, loops := true, apart := false }
def IdtreeSumsSaid : Prop := idtreeSumsRow.holds Try.pinned (OpenSpec.ofChange idtreeSumsSpec)

/-- ITS FALSE NEIGHBOUR: 'it returns false'. Refute it at one input. -/
def idtreeSumsWrong : ChangeSpec := { name := "idtreeSums", fn := fun _ => fun
  | [d1, d2, d3, d4] => { results := [.lit (.bool false)], args := [d1, d2, d3, d4] }
  | _ => none }
def IdtreeSumsWrongFalsely : Prop := idtreeSumsRow.holds Try.pinned (OpenSpec.ofChange idtreeSumsWrong)

/-- 'plexuslaw04.IdtreeNorms': WHATEVER THE INPUT: true; the input reads as it did. -/
def idtreeNormsSpec : ChangeSpec := { name := "idtreeNorms", fn := fun _ => fun
  | [d] => { results := [.lit (.bool true)], args := [d] }
  | _ => none }
def idtreeNormsRow : OpenClaim := { program := "ytdbkjafjanhhbaa", sum := "7dcab956982e426f24da1630ecc6a491e92eb4d718613e1e192a5f6df62aaf27", func := "plexus/plexuslaw04.IdtreeNorms", spec := "idtreeNorms", unfollowed := true, recurses := true, loops := true, apart := false }
def IdtreeNormsSaid : Prop := idtreeNormsRow.holds Try.pinned (OpenSpec.ofChange idtreeNormsSpec)

/-- ITS FALSE NEIGHBOUR: 'it returns false'. Refute it at one input. -/
def idtreeNormsWrong : ChangeSpec := { name := "idtreeNorms", fn := fun _ => fun
  | [d] => { results := [.lit (.bool false)], args := [d] }
  | _ => none }
def IdtreeNormsWrongFalsely : Prop := idtreeNormsRow.holds Try.pinned (OpenSpec.ofChange idtreeNormsWrong)

/- THE SECOND FORM. 'bulk': how many values and letters a reading holds, each counted each time it is reached (what is shared counts as often as it is met; a slice's spare places count too). A statement '..UptoSaid' is the law's where the arguments, and the package variables that the reading takes, are together of bulk at most 1048576: NARROWER than '..Said'. Prove '..Said' where nothing that the law and all that it calls make is longer than what came in: it says more and counts as full. Else prove '..UptoSaid'. A law counts once. -/
mutual
def uptoBulk {H : Type} : DataW H → Nat
  | .lit (.string bytes) => bytes.length + 1
  | .lit _ => 1
  | .nil => 1
  | .ptr d => uptoBulk d + 1
  | .slice elems spare => uptoBulkAll elems + uptoBulkAll spare + 1
  | .agg parts => uptoBulkAll parts + 1
  | .iface _ d => uptoBulk d + 1
  | .map entries => uptoBulkEntries entries + 1
  | .held _ => 1
def uptoBulkAll {H : Type} : List (DataW H) → Nat
  | [] => 0
  | d :: r => uptoBulk d + uptoBulkAll r
def uptoBulkEntries {H : Type} : List (Lit × DataW H) → Nat
  | [] => 0
  | x :: r => uptoBulkEntry x + uptoBulkEntries r
def uptoBulkEntry {H : Type} : Lit × DataW H → Nat
  | (.string bytes, d) => bytes.length + uptoBulk d + 1
  | (_, d) => uptoBulk d + 1
 end
def uptoSmall : (H : Type) → List (DataW H) → Bool := fun _ ds => decide (uptoBulkAll ds ≤ 1048576)
def OpenSpec.upto (s : _root_.Go.ChangeSpec) : _root_.Go.OpenSpec := { _root_.Go.OpenSpec.ofChange s with cond := some uptoSmall }

/-- 'plexuslaw04.IdtreeTells', WHERE WHAT IT READS IS OF BULK AT MOST 1048576: true; the input reads as it did. -/
def idtreeTellsUptoRow : OpenClaim := { program := "ytdbkjafjanhhbaa", sum := "7dcab956982e426f24da1630ecc6a491e92eb4d718613e1e192a5f6df62aaf27", func := "plexus/plexuslaw04.IdtreeTells", spec := "idtreeTells", unfollowed := true, recurses := true, loops := true, apart := false, narrowed := true }
def IdtreeTellsUptoSaid : Prop := idtreeTellsUptoRow.holds Try.pinned (OpenSpec.upto idtreeTellsSpec)

/-- 'plexuslaw04.IdtreeSplits', WHERE WHAT IT READS IS OF BULK AT MOST 1048576: true; the input reads as it did. -/
def idtreeSplitsUptoRow : OpenClaim := { program := "ytdbkjafjanhhbaa", sum := "7dcab956982e426f24da1630ecc6a491e92eb4d718613e1e192a5f6df62aaf27", func := "plexus/plexuslaw04.IdtreeSplits", spec := "idtreeSplits", unfollowed := true, recurses := true, loops := true, apart := false, narrowed := true }
def IdtreeSplitsUptoSaid : Prop := idtreeSplitsUptoRow.holds Try.pinned (OpenSpec.upto idtreeSplitsSpec)

/-- 'plexuslaw04.IdtreeSums', WHERE WHAT IT READS IS OF BULK AT MOST 1048576: true; the input reads as it did. -/
def idtreeSumsUptoRow : OpenClaim := { program := "ytdbkjafjanhhbaa", sum := "7dcab956982e426f24da1630ecc6a491e92eb4d718613e1e192a5f6df62aaf27", func := "plexus/plexuslaw04.IdtreeSums", spec := "idtreeSums", unfollowed := true, recurses := true, loops := true, apart := false, narrowed := true }
def IdtreeSumsUptoSaid : Prop := idtreeSumsUptoRow.holds Try.pinned (OpenSpec.upto idtreeSumsSpec)

/-- 'plexuslaw04.IdtreeNorms', WHERE WHAT IT READS IS OF BULK AT MOST 1048576: true; the input reads as it did. -/
def idtreeNormsUptoRow : OpenClaim := { program := "ytdbkjafjanhhbaa", sum := "7dcab956982e426f24da1630ecc6a491e92eb4d718613e1e192a5f6df62aaf27", func := "plexus/plexuslaw04.IdtreeNorms", spec := "idtreeNorms", unfollowed := true, recurses := true, loops := true, apart := false, narrowed := true }
def IdtreeNormsUptoSaid : Prop := idtreeNormsUptoRow.holds Try.pinned (OpenSpec.upto idtreeNormsSpec)

end Rows
end Go.Proofs.Ytdbkjafjanhhbaa
