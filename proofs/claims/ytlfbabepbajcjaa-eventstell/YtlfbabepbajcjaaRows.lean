/-
  NARROWER THAN 'FOR EVERY INPUT', by the rows' own cells (each row's printed sentence says how): EventsNorms: loops · EventsTell: loops · EventsJoin: loops · EventsOrder: loops.
  DERIVED. THE GIVEN ROWS OF THIS SEAT. 4 by the template 'for every input the law returns true; each argument reads behind the call as it read before'; 0 by the template 'total and deterministic' (their statements: YtlfbabepbajcjaaTotals.lean).
  GIVEN WITH THE SEED: the statements are not yours to turn. If you find one false, say at which input.
  Laid BY PROGRAM, IN A SANDBOX (cutbox-rows.mjs): the forced cells as the released guide's own fill.sh prints them over the translation 972ab66d4f280fb3… (all of the seat's roots in one cut). By AI agents, Wed Nov 11 2026. No macro, syntax, notation, axiom, sorry.
-/
import Derived.Test.YtlfbabepbajcjaaChecked
import GoSem.Claim
import GoSem.ClaimJoined
import GoSem.ClaimMapViews
import Derived.JoinedTies
import Derived.KernelRfl
namespace Go.Proofs.Ytlfbabepbajcjaa
/- THE CELL 'sum', in the pinned program and in every row, IS THE sha256 OF THE DUMP (.gsa) THAT YtlfbabepbajcjaaProg.lean LOADS. Nothing in Lean hashes anything: it is a label: what it is worth is what the hold of that sum in a sandbox is worth. -/
noncomputable def Try.pinned : Pinned := { name := "ytlfbabepbajcjaa", sum := "972ab66d4f280fb39e3fcb7947c876c03bdea6f908071a2671ee586e3d53b366", checked := Try.checked }
namespace Rows
def none {H : Type} : Left H := { results := [], args := [] }

/-- 'plexuslaw05.EventsNorms': WHATEVER THE INPUT: true; the input reads as it did. -/
def eventsNormsSpec : ChangeSpec := { name := "eventsNorms", fn := fun _ => fun
  | [d] => { results := [.lit (.bool true)], args := [d] }
  | _ => none }
def eventsNormsRow : OpenClaim := { program := "ytlfbabepbajcjaa", sum := "972ab66d4f280fb39e3fcb7947c876c03bdea6f908071a2671ee586e3d53b366", func := "plexus/plexuslaw05.EventsNorms", spec := "eventsNorms", unfollowed := true, recurses := true, loops := true, apart := false }
def EventsNormsSaid : Prop := eventsNormsRow.holds Try.pinned (OpenSpec.ofChange eventsNormsSpec)

/-- ITS FALSE NEIGHBOUR: 'it returns false'. Refute it at one input. -/
def eventsNormsWrong : ChangeSpec := { name := "eventsNorms", fn := fun _ => fun
  | [d] => { results := [.lit (.bool false)], args := [d] }
  | _ => none }
def EventsNormsWrongFalsely : Prop := eventsNormsRow.holds Try.pinned (OpenSpec.ofChange eventsNormsWrong)

/-- 'plexuslaw05.EventsTell': WHATEVER THE INPUT: true; the input reads as it did. -/
def eventsTellSpec : ChangeSpec := { name := "eventsTell", fn := fun _ => fun
  | [d1, d2, d3] => { results := [.lit (.bool true)], args := [d1, d2, d3] }
  | _ => none }
def eventsTellRow : OpenClaim := { program := "ytlfbabepbajcjaa", sum := "972ab66d4f280fb39e3fcb7947c876c03bdea6f908071a2671ee586e3d53b366", func := "plexus/plexuslaw05.EventsTell", spec := "eventsTell", unfollowed := true, recurses := true, loops := true, apart := false }
def EventsTellSaid : Prop := eventsTellRow.holds Try.pinned (OpenSpec.ofChange eventsTellSpec)

/-- ITS FALSE NEIGHBOUR: 'it returns false'. Refute it at one input. -/
def eventsTellWrong : ChangeSpec := { name := "eventsTell", fn := fun _ => fun
  | [d1, d2, d3] => { results := [.lit (.bool false)], args := [d1, d2, d3] }
  | _ => none }
def EventsTellWrongFalsely : Prop := eventsTellRow.holds Try.pinned (OpenSpec.ofChange eventsTellWrong)

/-- 'plexuslaw05.EventsJoin': WHATEVER THE INPUT: true; the input reads as it did. -/
def eventsJoinSpec : ChangeSpec := { name := "eventsJoin", fn := fun _ => fun
  | [d1, d2, d3, d4] => { results := [.lit (.bool true)], args := [d1, d2, d3, d4] }
  | _ => none }
def eventsJoinRow : OpenClaim := { program := "ytlfbabepbajcjaa", sum := "972ab66d4f280fb39e3fcb7947c876c03bdea6f908071a2671ee586e3d53b366", func := "plexus/plexuslaw05.EventsJoin", spec := "eventsJoin", unfollowed := true, recurses := true, loops := true, apart := false }
def EventsJoinSaid : Prop := eventsJoinRow.holds Try.pinned (OpenSpec.ofChange eventsJoinSpec)

/-- ITS FALSE NEIGHBOUR: 'it returns false'. Refute it at one input. -/
def eventsJoinWrong : ChangeSpec := { name := "eventsJoin", fn := fun _ => fun
  | [d1, d2, d3, d4] => { results := [.lit (.bool false)], args := [d1, d2, d3, d4] }
  | _ => none }
def EventsJoinWrongFalsely : Prop := eventsJoinRow.holds Try.pinned (OpenSpec.ofChange eventsJoinWrong)

/-- 'plexuslaw05.EventsOrder': WHATEVER THE INPUT: true; the input reads as it did. -/
def eventsOrderSpec : ChangeSpec := { name := "eventsOrder", fn := fun _ => fun
  | [d1, d2, d3, d4] => { results := [.lit (.bool true)], args := [d1, d2, d3, d4] }
  | _ => none }
def eventsOrderRow : OpenClaim := { program := "ytlfbabepbajcjaa", sum := "972ab66d4f280fb39e3fcb7947c876c03bdea6f908071a2671ee586e3d53b366", func := "plexus/plexuslaw05.EventsOrder", spec := "eventsOrder", unfollowed := true, recurses := true, loops := true, apart := false }
def EventsOrderSaid : Prop := eventsOrderRow.holds Try.pinned (OpenSpec.ofChange eventsOrderSpec)

/-- ITS FALSE NEIGHBOUR: 'it returns false'. Refute it at one input. -/
def eventsOrderWrong : ChangeSpec := { name := "eventsOrder", fn := fun _ => fun
  | [d1, d2, d3, d4] => { results := [.lit (.bool false)], args := [d1, d2, d3, d4] }
  | _ => none }
def EventsOrderWrongFalsely : Prop := eventsOrderRow.holds Try.pinned (OpenSpec.ofChange eventsOrderWrong)

/- THE SECOND FORM. 'bulk': how many values and letters a reading holds, each counted each time it is reached (what is shared counts as often as it is met; a slice's spare places count too). A statement '..UptoSaid' is the law's where the arguments, and the package variables that the reading takes, are together of bulk at most 1048576: NARROWER than '..Said'. Prove '..Said' where nothing that the law and all that it calls make is longer than what came in: it says more and counts as full. Else prove '..UptoSaid'. A law counts once. -/
mutual
def uptoBulk {H : Type} : DataW H → Nat
  | .lit (.string bytes) => bytes.length + 1
  | .lit _ => 1
  | .nil => 1
  | .ptr d => uptoBulk d + 1
  | .slice elems spare => uptoBulkAll elems + uptoBulkAll spare + 1
  | .agg parts => uptoBulkAll parts + 1
  | .iface _ d => uptoBulk d + 1
  | .map entries => uptoBulkEntries entries + 1
  | .held _ => 1
def uptoBulkAll {H : Type} : List (DataW H) → Nat
  | [] => 0
  | d :: r => uptoBulk d + uptoBulkAll r
def uptoBulkEntries {H : Type} : List (Lit × DataW H) → Nat
  | [] => 0
  | x :: r => uptoBulkEntry x + uptoBulkEntries r
def uptoBulkEntry {H : Type} : Lit × DataW H → Nat
  | (.string bytes, d) => bytes.length + uptoBulk d + 1
  | (_, d) => uptoBulk d + 1
 end
def uptoSmall : (H : Type) → List (DataW H) → Bool := fun _ ds => decide (uptoBulkAll ds ≤ 1048576)
def OpenSpec.upto (s : _root_.Go.ChangeSpec) : _root_.Go.OpenSpec := { _root_.Go.OpenSpec.ofChange s with cond := some uptoSmall }

/-- 'plexuslaw05.EventsNorms', WHERE WHAT IT READS IS OF BULK AT MOST 1048576: true; the input reads as it did. -/
def eventsNormsUptoRow : OpenClaim := { program := "ytlfbabepbajcjaa", sum := "972ab66d4f280fb39e3fcb7947c876c03bdea6f908071a2671ee586e3d53b366", func := "plexus/plexuslaw05.EventsNorms", spec := "eventsNorms", unfollowed := true, recurses := true, loops := true, apart := false, narrowed := true }
def EventsNormsUptoSaid : Prop := eventsNormsUptoRow.holds Try.pinned (OpenSpec.upto eventsNormsSpec)

/-- 'plexuslaw05.EventsTell', WHERE WHAT IT READS IS OF BULK AT MOST 1048576: true; the input reads as it did. -/
def eventsTellUptoRow : OpenClaim := { program := "ytlfbabepbajcjaa", sum := "972ab66d4f280fb39e3fcb7947c876c03bdea6f908071a2671ee586e3d53b366", func := "plexus/plexuslaw05.EventsTell", spec := "eventsTell", unfollowed := true, recurses := true, loops := true, apart := false, narrowed := true }
def EventsTellUptoSaid : Prop := eventsTellUptoRow.holds Try.pinned (OpenSpec.upto eventsTellSpec)

/-- 'plexuslaw05.EventsJoin', WHERE WHAT IT READS IS OF BULK AT MOST 1048576: true; the input reads as it did. -/
def eventsJoinUptoRow : OpenClaim := { program := "ytlfbabepbajcjaa", sum := "972ab66d4f280fb39e3fcb7947c876c03bdea6f908071a2671ee586e3d53b366", func := "plexus/plexuslaw05.EventsJoin", spec := "eventsJoin", unfollowed := true, recurses := true, loops := true, apart := false, narrowed := true }
def EventsJoinUptoSaid : Prop := eventsJoinUptoRow.holds Try.pinned (OpenSpec.upto eventsJoinSpec)

/-- 'plexuslaw05.EventsOrder', WHERE WHAT IT READS IS OF BULK AT MOST 1048576: true; the input reads as it did. -/
def eventsOrderUptoRow : OpenClaim := { program := "ytlfbabepbajcjaa", sum := "972ab66d4f280fb39e3fcb7947c876c03bdea6f908071a2671ee586e3d53b366", func := "plexus/plexuslaw05.EventsOrder", spec := "eventsOrder", unfollowed := true, recurses := true, loops := true, apart := false, narrowed := true }
def EventsOrderUptoSaid : Prop := eventsOrderUptoRow.holds Try.pinned (OpenSpec.upto eventsOrderSpec)

end Rows
end Go.Proofs.Ytlfbabepbajcjaa
