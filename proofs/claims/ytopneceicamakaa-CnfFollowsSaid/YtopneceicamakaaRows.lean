/-
  No cell of these rows narrows 'for every input' (looked for: loops, veiled, ifaces, maps, wideKeys, modest, calm, conditions, laid).
  DERIVED. THE GIVEN ROWS OF THIS SEAT. 7 by the template 'for every input the law returns true; each argument reads behind the call as it read before'; 0 by the template 'total and deterministic' (their statements: YtopneceicamakaaTotals.lean).
  GIVEN WITH THE SEED: the statements are not yours to turn. If you find one false, say at which input.
  Laid BY PROGRAM, IN A SANDBOX (cutbox-rows.mjs): the forced cells as the released guide's own fill.sh prints them over the translation ec301f7d9b1f8086… (all of the seat's roots in one cut). By AI agents, Wed Nov 11 2026. No macro, syntax, notation, axiom, sorry.
-/
import Derived.Test.YtopneceicamakaaChecked
import GoSem.Claim
import GoSem.ClaimJoined
import GoSem.ClaimMapViews
import Derived.JoinedTies
import Derived.KernelRfl
namespace Go.Proofs.Ytopneceicamakaa
/- THE CELL 'sum', in the pinned program and in every row, IS THE sha256 OF THE DUMP (.gsa) THAT YtopneceicamakaaProg.lean LOADS. Nothing in Lean hashes anything: it is a label: what it is worth is what the hold of that sum in a sandbox is worth. -/
noncomputable def Try.pinned : Pinned := { name := "ytopneceicamakaa", sum := "ec301f7d9b1f8086b89333b7cb451d1105d7b52675408755f7f63e2dafc13a60", checked := Try.checked }
namespace Rows
def none {H : Type} : Left H := { results := [], args := [] }

/-- 'chandlerlaw12.CnfChecks': WHATEVER THE INPUT: true; the input reads as it did. -/
def cnfChecksSpec : ChangeSpec := { name := "cnfChecks", fn := fun _ => fun
  | [d1, d2] => { results := [.lit (.bool true)], args := [d1, d2] }
  | _ => none }
def cnfChecksRow : OpenClaim := { program := "ytopneceicamakaa", sum := "ec301f7d9b1f8086b89333b7cb451d1105d7b52675408755f7f63e2dafc13a60", func := "chandler/chandlerlaw12.CnfChecks", spec := "cnfChecks", unfollowed := true, recurses := true, apart := false }
def CnfChecksSaid : Prop := cnfChecksRow.holds Try.pinned (OpenSpec.ofChange cnfChecksSpec)

/-- ITS FALSE NEIGHBOUR: 'it returns false'. Refute it at one input. -/
def cnfChecksWrong : ChangeSpec := { name := "cnfChecks", fn := fun _ => fun
  | [d1, d2] => { results := [.lit (.bool false)], args := [d1, d2] }
  | _ => none }
def CnfChecksWrongFalsely : Prop := cnfChecksRow.holds Try.pinned (OpenSpec.ofChange cnfChecksWrong)

/-- 'chandlerlaw12.CnfNorms': WHATEVER THE INPUT: true; the input reads as it did. -/
def cnfNormsSpec : ChangeSpec := { name := "cnfNorms", fn := fun _ => fun
  | [d] => { results := [.lit (.bool true)], args := [d] }
  | _ => none }
def cnfNormsRow : OpenClaim := { program := "ytopneceicamakaa", sum := "ec301f7d9b1f8086b89333b7cb451d1105d7b52675408755f7f63e2dafc13a60", func := "chandler/chandlerlaw12.CnfNorms", spec := "cnfNorms", unfollowed := true, recurses := true, apart := false }
def CnfNormsSaid : Prop := cnfNormsRow.holds Try.pinned (OpenSpec.ofChange cnfNormsSpec)

/-- ITS FALSE NEIGHBOUR: 'it returns false'. Refute it at one input. -/
def cnfNormsWrong : ChangeSpec := { name := "cnfNorms", fn := fun _ => fun
  | [d] => { results := [.lit (.bool false)], args := [d] }
  | _ => none }
def CnfNormsWrongFalsely : Prop := cnfNormsRow.holds Try.pinned (OpenSpec.ofChange cnfNormsWrong)

/-- 'chandlerlaw12.CnfResolves': WHATEVER THE INPUT: true; the input reads as it did. -/
def cnfResolvesSpec : ChangeSpec := { name := "cnfResolves", fn := fun _ => fun
  | [d1, d2, d3] => { results := [.lit (.bool true)], args := [d1, d2, d3] }
  | _ => none }
def cnfResolvesRow : OpenClaim := { program := "ytopneceicamakaa", sum := "ec301f7d9b1f8086b89333b7cb451d1105d7b52675408755f7f63e2dafc13a60", func := "chandler/chandlerlaw12.CnfResolves", spec := "cnfResolves", unfollowed := true, recurses := true, apart := false }
def CnfResolvesSaid : Prop := cnfResolvesRow.holds Try.pinned (OpenSpec.ofChange cnfResolvesSpec)

/-- ITS FALSE NEIGHBOUR: 'it returns false'. Refute it at one input. -/
def cnfResolvesWrong : ChangeSpec := { name := "cnfResolves", fn := fun _ => fun
  | [d1, d2, d3] => { results := [.lit (.bool false)], args := [d1, d2, d3] }
  | _ => none }
def CnfResolvesWrongFalsely : Prop := cnfResolvesRow.holds Try.pinned (OpenSpec.ofChange cnfResolvesWrong)

/-- 'chandlerlaw12.CnfHolds': WHATEVER THE INPUT: true; the input reads as it did. -/
def cnfHoldsSpec : ChangeSpec := { name := "cnfHolds", fn := fun _ => fun
  | [d1, d2, d3] => { results := [.lit (.bool true)], args := [d1, d2, d3] }
  | _ => none }
def cnfHoldsRow : OpenClaim := { program := "ytopneceicamakaa", sum := "ec301f7d9b1f8086b89333b7cb451d1105d7b52675408755f7f63e2dafc13a60", func := "chandler/chandlerlaw12.CnfHolds", spec := "cnfHolds", unfollowed := true, recurses := true, apart := false }
def CnfHoldsSaid : Prop := cnfHoldsRow.holds Try.pinned (OpenSpec.ofChange cnfHoldsSpec)

/-- ITS FALSE NEIGHBOUR: 'it returns false'. Refute it at one input. -/
def cnfHoldsWrong : ChangeSpec := { name := "cnfHolds", fn := fun _ => fun
  | [d1, d2, d3] => { results := [.lit (.bool false)], args := [d1, d2, d3] }
  | _ => none }
def CnfHoldsWrongFalsely : Prop := cnfHoldsRow.holds Try.pinned (OpenSpec.ofChange cnfHoldsWrong)

/-- 'chandlerlaw12.CnfSpreads': WHATEVER THE INPUT: true; the input reads as it did. -/
def cnfSpreadsSpec : ChangeSpec := { name := "cnfSpreads", fn := fun _ => fun
  | [d1, d2, d3] => { results := [.lit (.bool true)], args := [d1, d2, d3] }
  | _ => none }
def cnfSpreadsRow : OpenClaim := { program := "ytopneceicamakaa", sum := "ec301f7d9b1f8086b89333b7cb451d1105d7b52675408755f7f63e2dafc13a60", func := "chandler/chandlerlaw12.CnfSpreads", spec := "cnfSpreads", unfollowed := true, recurses := true, apart := false }
def CnfSpreadsSaid : Prop := cnfSpreadsRow.holds Try.pinned (OpenSpec.ofChange cnfSpreadsSpec)

/-- ITS FALSE NEIGHBOUR: 'it returns false'. Refute it at one input. -/
def cnfSpreadsWrong : ChangeSpec := { name := "cnfSpreads", fn := fun _ => fun
  | [d1, d2, d3] => { results := [.lit (.bool false)], args := [d1, d2, d3] }
  | _ => none }
def CnfSpreadsWrongFalsely : Prop := cnfSpreadsRow.holds Try.pinned (OpenSpec.ofChange cnfSpreadsWrong)

/-- 'chandlerlaw12.CnfFollows': WHATEVER THE INPUT: true; the input reads as it did. -/
def cnfFollowsSpec : ChangeSpec := { name := "cnfFollows", fn := fun _ => fun
  | [d1, d2, d3] => { results := [.lit (.bool true)], args := [d1, d2, d3] }
  | _ => none }
def cnfFollowsRow : OpenClaim := { program := "ytopneceicamakaa", sum := "ec301f7d9b1f8086b89333b7cb451d1105d7b52675408755f7f63e2dafc13a60", func := "chandler/chandlerlaw12.CnfFollows", spec := "cnfFollows", unfollowed := true, recurses := true, apart := false }
def CnfFollowsSaid : Prop := cnfFollowsRow.holds Try.pinned (OpenSpec.ofChange cnfFollowsSpec)

/-- ITS FALSE NEIGHBOUR: 'it returns false'. Refute it at one input. -/
def cnfFollowsWrong : ChangeSpec := { name := "cnfFollows", fn := fun _ => fun
  | [d1, d2, d3] => { results := [.lit (.bool false)], args := [d1, d2, d3] }
  | _ => none }
def CnfFollowsWrongFalsely : Prop := cnfFollowsRow.holds Try.pinned (OpenSpec.ofChange cnfFollowsWrong)

/-- 'chandlerlaw12.CnfSubsumes': WHATEVER THE INPUT: true; the input reads as it did. -/
def cnfSubsumesSpec : ChangeSpec := { name := "cnfSubsumes", fn := fun _ => fun
  | [d1, d2] => { results := [.lit (.bool true)], args := [d1, d2] }
  | _ => none }
def cnfSubsumesRow : OpenClaim := { program := "ytopneceicamakaa", sum := "ec301f7d9b1f8086b89333b7cb451d1105d7b52675408755f7f63e2dafc13a60", func := "chandler/chandlerlaw12.CnfSubsumes", spec := "cnfSubsumes", unfollowed := true, recurses := true, apart := false }
def CnfSubsumesSaid : Prop := cnfSubsumesRow.holds Try.pinned (OpenSpec.ofChange cnfSubsumesSpec)

/-- ITS FALSE NEIGHBOUR: 'it returns false'. Refute it at one input. -/
def cnfSubsumesWrong : ChangeSpec := { name := "cnfSubsumes", fn := fun _ => fun
  | [d1, d2] => { results := [.lit (.bool false)], args := [d1, d2] }
  | _ => none }
def CnfSubsumesWrongFalsely : Prop := cnfSubsumesRow.holds Try.pinned (OpenSpec.ofChange cnfSubsumesWrong)

/- THE SECOND FORM. 'bulk': how many values and letters a reading holds, each counted each time it is reached (what is shared counts as often as it is met; a slice's spare places count too). A statement '..UptoSaid' is the law's where the arguments, and the package variables that the reading takes, are together of bulk at most 1048576: NARROWER than '..Said'. Prove '..Said' where nothing that the law and all that it calls make is longer than what came in: it says more and counts as full. Else prove '..UptoSaid'. A law counts once. -/
mutual
def uptoBulk {H : Type} : DataW H → Nat
  | .lit (.string bytes) => bytes.length + 1
  | .lit _ => 1
  | .nil => 1
  | .ptr d => uptoBulk d + 1
  | .slice elems spare => uptoBulkAll elems + uptoBulkAll spare + 1
  | .agg parts => uptoBulkAll parts + 1
  | .iface _ d => uptoBulk d + 1
  | .map entries => uptoBulkEntries entries + 1
  | .held _ => 1
def uptoBulkAll {H : Type} : List (DataW H) → Nat
  | [] => 0
  | d :: r => uptoBulk d + uptoBulkAll r
def uptoBulkEntries {H : Type} : List (Lit × DataW H) → Nat
  | [] => 0
  | x :: r => uptoBulkEntry x + uptoBulkEntries r
def uptoBulkEntry {H : Type} : Lit × DataW H → Nat
  | (.string bytes, d) => bytes.length + uptoBulk d + 1
  | (_, d) => uptoBulk d + 1
 end
def uptoSmall : (H : Type) → List (DataW H) → Bool := fun _ ds => decide (uptoBulkAll ds ≤ 1048576)
def OpenSpec.upto (s : _root_.Go.ChangeSpec) : _root_.Go.OpenSpec := { _root_.Go.OpenSpec.ofChange s with cond := some uptoSmall }

/-- 'chandlerlaw12.CnfChecks', WHERE WHAT IT READS IS OF BULK AT MOST 1048576: true; the input reads as it did. -/
def cnfChecksUptoRow : OpenClaim := { program := "ytopneceicamakaa", sum := "ec301f7d9b1f8086b89333b7cb451d1105d7b52675408755f7f63e2dafc13a60", func := "chandler/chandlerlaw12.CnfChecks", spec := "cnfChecks", unfollowed := true, recurses := true, apart := false, narrowed := true }
def CnfChecksUptoSaid : Prop := cnfChecksUptoRow.holds Try.pinned (OpenSpec.upto cnfChecksSpec)

/-- 'chandlerlaw12.CnfNorms', WHERE WHAT IT READS IS OF BULK AT MOST 1048576: true; the input reads as it did. -/
def cnfNormsUptoRow : OpenClaim := { program := "ytopneceicamakaa", sum := "ec301f7d9b1f8086b89333b7cb451d1105d7b52675408755f7f63e2dafc13a60", func := "chandler/chandlerlaw12.CnfNorms", spec := "cnfNorms", unfollowed := true, recurses := true, apart := false, narrowed := true }
def CnfNormsUptoSaid : Prop := cnfNormsUptoRow.holds Try.pinned (OpenSpec.upto cnfNormsSpec)

/-- 'chandlerlaw12.CnfResolves', WHERE WHAT IT READS IS OF BULK AT MOST 1048576: true; the input reads as it did. -/
def cnfResolvesUptoRow : OpenClaim := { program := "ytopneceicamakaa", sum := "ec301f7d9b1f8086b89333b7cb451d1105d7b52675408755f7f63e2dafc13a60", func := "chandler/chandlerlaw12.CnfResolves", spec := "cnfResolves", unfollowed := true, recurses := true, apart := false, narrowed := true }
def CnfResolvesUptoSaid : Prop := cnfResolvesUptoRow.holds Try.pinned (OpenSpec.upto cnfResolvesSpec)

/-- 'chandlerlaw12.CnfHolds', WHERE WHAT IT READS IS OF BULK AT MOST 1048576: true; the input reads as it did. -/
def cnfHoldsUptoRow : OpenClaim := { program := "ytopneceicamakaa", sum := "ec301f7d9b1f8086b89333b7cb451d1105d7b52675408755f7f63e2dafc13a60", func := "chandler/chandlerlaw12.CnfHolds", spec := "cnfHolds", unfollowed := true, recurses := true, apart := false, narrowed := true }
def CnfHoldsUptoSaid : Prop := cnfHoldsUptoRow.holds Try.pinned (OpenSpec.upto cnfHoldsSpec)

/-- 'chandlerlaw12.CnfSpreads', WHERE WHAT IT READS IS OF BULK AT MOST 1048576: true; the input reads as it did. -/
def cnfSpreadsUptoRow : OpenClaim := { program := "ytopneceicamakaa", sum := "ec301f7d9b1f8086b89333b7cb451d1105d7b52675408755f7f63e2dafc13a60", func := "chandler/chandlerlaw12.CnfSpreads", spec := "cnfSpreads", unfollowed := true, recurses := true, apart := false, narrowed := true }
def CnfSpreadsUptoSaid : Prop := cnfSpreadsUptoRow.holds Try.pinned (OpenSpec.upto cnfSpreadsSpec)

/-- 'chandlerlaw12.CnfFollows', WHERE WHAT IT READS IS OF BULK AT MOST 1048576: true; the input reads as it did. -/
def cnfFollowsUptoRow : OpenClaim := { program := "ytopneceicamakaa", sum := "ec301f7d9b1f8086b89333b7cb451d1105d7b52675408755f7f63e2dafc13a60", func := "chandler/chandlerlaw12.CnfFollows", spec := "cnfFollows", unfollowed := true, recurses := true, apart := false, narrowed := true }
def CnfFollowsUptoSaid : Prop := cnfFollowsUptoRow.holds Try.pinned (OpenSpec.upto cnfFollowsSpec)

/-- 'chandlerlaw12.CnfSubsumes', WHERE WHAT IT READS IS OF BULK AT MOST 1048576: true; the input reads as it did. -/
def cnfSubsumesUptoRow : OpenClaim := { program := "ytopneceicamakaa", sum := "ec301f7d9b1f8086b89333b7cb451d1105d7b52675408755f7f63e2dafc13a60", func := "chandler/chandlerlaw12.CnfSubsumes", spec := "cnfSubsumes", unfollowed := true, recurses := true, apart := false, narrowed := true }
def CnfSubsumesUptoSaid : Prop := cnfSubsumesUptoRow.holds Try.pinned (OpenSpec.upto cnfSubsumesSpec)

end Rows
end Go.Proofs.Ytopneceicamakaa
