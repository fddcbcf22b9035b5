/-
  No cell of these rows narrows 'for every input' (looked for: loops, veiled, ifaces, maps, wideKeys, modest, calm, conditions, laid).
  DERIVED. THE GIVEN ROWS OF THIS SEAT. 6 by the template 'for every input the law returns true; each argument reads behind the call as it read before'; 0 by the template 'total and deterministic' (their statements: YtbjllcjjibjgoaaTotals.lean).
  GIVEN WITH THE SEED: the statements are not yours to turn. If you find one false, say at which input.
  Laid BY PROGRAM, IN A SANDBOX (cutbox-rows.mjs): the forced cells as the released guide's own fill.sh prints them over the translation 93ac0cc5d890e291… (all of the seat's roots in one cut). By AI agents, Wed Nov 11 2026. No macro, syntax, notation, axiom, sorry.
-/
import Derived.Test.YtbjllcjjibjgoaaChecked
import GoSem.Claim
import GoSem.ClaimJoined
import GoSem.ClaimMapViews
import Derived.JoinedTies
import Derived.KernelRfl
namespace Go.Proofs.Ytbjllcjjibjgoaa
/- THE CELL 'sum', in the pinned program and in every row, IS THE sha256 OF THE DUMP (.gsa) THAT YtbjllcjjibjgoaaProg.lean LOADS. Nothing in Lean hashes anything: it is a label: what it is worth is what the hold of that sum in a sandbox is worth. -/
noncomputable def Try.pinned : Pinned := { name := "ytbjllcjjibjgoaa", sum := "93ac0cc5d890e291c34f887b93d7b68ca16311ec72568904ac559eabc06befe3", checked := Try.checked }
namespace Rows
def none {H : Type} : Left H := { results := [], args := [] }

/-- 'chandlerlaw13.OrderPlays': WHATEVER THE INPUT: true; the input reads as it did. -/
def orderPlaysSpec : ChangeSpec := { name := "orderPlays", fn := fun _ => fun
  | [d1, d2] => { results := [.lit (.bool true)], args := [d1, d2] }
  | _ => none }
def orderPlaysRow : OpenClaim := { program := "ytbjllcjjibjgoaa", sum := "93ac0cc5d890e291c34f887b93d7b68ca16311ec72568904ac559eabc06befe3", func := "chandler/chandlerlaw13.OrderPlays", spec := "orderPlays", apart := false }
def OrderPlaysSaid : Prop := orderPlaysRow.holds Try.pinned (OpenSpec.ofChange orderPlaysSpec)

/-- ITS FALSE NEIGHBOUR: 'it returns false'. Refute it at one input. -/
def orderPlaysWrong : ChangeSpec := { name := "orderPlays", fn := fun _ => fun
  | [d1, d2] => { results := [.lit (.bool false)], args := [d1, d2] }
  | _ => none }
def OrderPlaysWrongFalsely : Prop := orderPlaysRow.holds Try.pinned (OpenSpec.ofChange orderPlaysWrong)

/-- 'chandlerlaw13.OrderDrains': WHATEVER THE INPUT: true; the input reads as it did. -/
def orderDrainsSpec : ChangeSpec := { name := "orderDrains", fn := fun _ => fun
  | [d1, d2] => { results := [.lit (.bool true)], args := [d1, d2] }
  | _ => none }
def orderDrainsRow : OpenClaim := { program := "ytbjllcjjibjgoaa", sum := "93ac0cc5d890e291c34f887b93d7b68ca16311ec72568904ac559eabc06befe3", func := "chandler/chandlerlaw13.OrderDrains", spec := "orderDrains", apart := false }
def OrderDrainsSaid : Prop := orderDrainsRow.holds Try.pinned (OpenSpec.ofChange orderDrainsSpec)

/-- ITS FALSE NEIGHBOUR: 'it returns false'. Refute it at one input. -/
def orderDrainsWrong : ChangeSpec := { name := "orderDrains", fn := fun _ => fun
  | [d1, d2] => { results := [.lit (.bool false)], args := [d1, d2] }
  | _ => none }
def OrderDrainsWrongFalsely : Prop := orderDrainsRow.holds Try.pinned (OpenSpec.ofChange orderDrainsWrong)

/-- 'chandlerlaw13.OrderLubys': WHATEVER THE INPUT: true; the input reads as it did. -/
def orderLubysSpec : ChangeSpec := { name := "orderLubys", fn := fun _ => fun
  | [d1, d2] => { results := [.lit (.bool true)], args := [d1, d2] }
  | _ => none }
def orderLubysRow : OpenClaim := { program := "ytbjllcjjibjgoaa", sum := "93ac0cc5d890e291c34f887b93d7b68ca16311ec72568904ac559eabc06befe3", func := "chandler/chandlerlaw13.OrderLubys", spec := "orderLubys", apart := false }
def OrderLubysSaid : Prop := orderLubysRow.holds Try.pinned (OpenSpec.ofChange orderLubysSpec)

/-- ITS FALSE NEIGHBOUR: 'it returns false'. Refute it at one input. -/
def orderLubysWrong : ChangeSpec := { name := "orderLubys", fn := fun _ => fun
  | [d1, d2] => { results := [.lit (.bool false)], args := [d1, d2] }
  | _ => none }
def OrderLubysWrongFalsely : Prop := orderLubysRow.holds Try.pinned (OpenSpec.ofChange orderLubysWrong)

/-- 'chandlerlaw13.OrderTurns': WHATEVER THE INPUT: true; the input reads as it did. -/
def orderTurnsSpec : ChangeSpec := { name := "orderTurns", fn := fun _ => fun
  | [d1, d2] => { results := [.lit (.bool true)], args := [d1, d2] }
  | _ => none }
def orderTurnsRow : OpenClaim := { program := "ytbjllcjjibjgoaa", sum := "93ac0cc5d890e291c34f887b93d7b68ca16311ec72568904ac559eabc06befe3", func := "chandler/chandlerlaw13.OrderTurns", spec := "orderTurns", apart := false }
def OrderTurnsSaid : Prop := orderTurnsRow.holds Try.pinned (OpenSpec.ofChange orderTurnsSpec)

/-- ITS FALSE NEIGHBOUR: 'it returns false'. Refute it at one input. -/
def orderTurnsWrong : ChangeSpec := { name := "orderTurns", fn := fun _ => fun
  | [d1, d2] => { results := [.lit (.bool false)], args := [d1, d2] }
  | _ => none }
def OrderTurnsWrongFalsely : Prop := orderTurnsRow.holds Try.pinned (OpenSpec.ofChange orderTurnsWrong)

/-- 'chandlerlaw13.OrderNils': WHATEVER THE INPUT: true; the input reads as it did. -/
def orderNilsSpec : ChangeSpec := { name := "orderNils", fn := fun _ => fun
  | [d1, d2] => { results := [.lit (.bool true)], args := [d1, d2] }
  | _ => none }
def orderNilsRow : OpenClaim := { program := "ytbjllcjjibjgoaa", sum := "93ac0cc5d890e291c34f887b93d7b68ca16311ec72568904ac559eabc06befe3", func := "chandler/chandlerlaw13.OrderNils", spec := "orderNils", apart := false }
def OrderNilsSaid : Prop := orderNilsRow.holds Try.pinned (OpenSpec.ofChange orderNilsSpec)

/-- ITS FALSE NEIGHBOUR: 'it returns false'. Refute it at one input. -/
def orderNilsWrong : ChangeSpec := { name := "orderNils", fn := fun _ => fun
  | [d1, d2] => { results := [.lit (.bool false)], args := [d1, d2] }
  | _ => none }
def OrderNilsWrongFalsely : Prop := orderNilsRow.holds Try.pinned (OpenSpec.ofChange orderNilsWrong)

/-- 'chandlerlaw13.OrderBumps': WHATEVER THE INPUT: true; the input reads as it did. -/
def orderBumpsSpec : ChangeSpec := { name := "orderBumps", fn := fun _ => fun
  | [d1, d2] => { results := [.lit (.bool true)], args := [d1, d2] }
  | _ => none }
def orderBumpsRow : OpenClaim := { program := "ytbjllcjjibjgoaa", sum := "93ac0cc5d890e291c34f887b93d7b68ca16311ec72568904ac559eabc06befe3", func := "chandler/chandlerlaw13.OrderBumps", spec := "orderBumps", apart := false }
def OrderBumpsSaid : Prop := orderBumpsRow.holds Try.pinned (OpenSpec.ofChange orderBumpsSpec)

/-- ITS FALSE NEIGHBOUR: 'it returns false'. Refute it at one input. -/
def orderBumpsWrong : ChangeSpec := { name := "orderBumps", fn := fun _ => fun
  | [d1, d2] => { results := [.lit (.bool false)], args := [d1, d2] }
  | _ => none }
def OrderBumpsWrongFalsely : Prop := orderBumpsRow.holds Try.pinned (OpenSpec.ofChange orderBumpsWrong)

/- THE SECOND FORM. 'bulk': how many values and letters a reading holds, each counted each time it is reached (what is shared counts as often as it is met; a slice's spare places count too). A statement '..UptoSaid' is the law's where the arguments, and the package variables that the reading takes, are together of bulk at most 1048576: NARROWER than '..Said'. Prove '..Said' where nothing that the law and all that it calls make is longer than what came in: it says more and counts as full. Else prove '..UptoSaid'. A law counts once. -/
mutual
def uptoBulk {H : Type} : DataW H → Nat
  | .lit (.string bytes) => bytes.length + 1
  | .lit _ => 1
  | .nil => 1
  | .ptr d => uptoBulk d + 1
  | .slice elems spare => uptoBulkAll elems + uptoBulkAll spare + 1
  | .agg parts => uptoBulkAll parts + 1
  | .iface _ d => uptoBulk d + 1
  | .map entries => uptoBulkEntries entries + 1
  | .held _ => 1
def uptoBulkAll {H : Type} : List (DataW H) → Nat
  | [] => 0
  | d :: r => uptoBulk d + uptoBulkAll r
def uptoBulkEntries {H : Type} : List (Lit × DataW H) → Nat
  | [] => 0
  | x :: r => uptoBulkEntry x + uptoBulkEntries r
def uptoBulkEntry {H : Type} : Lit × DataW H → Nat
  | (.string bytes, d) => bytes.length + uptoBulk d + 1
  | (_, d) => uptoBulk d + 1
 end
def uptoSmall : (H : Type) → List (DataW H) → Bool := fun _ ds => decide (uptoBulkAll ds ≤ 1048576)
def OpenSpec.upto (s : _root_.Go.ChangeSpec) : _root_.Go.OpenSpec := { _root_.Go.OpenSpec.ofChange s with cond := some uptoSmall }

/-- 'chandlerlaw13.OrderPlays', WHERE WHAT IT READS IS OF BULK AT MOST 1048576: true; the input reads as it did. -/
def orderPlaysUptoRow : OpenClaim := { program := "ytbjllcjjibjgoaa", sum := "93ac0cc5d890e291c34f887b93d7b68ca16311ec72568904ac559eabc06befe3", func := "chandler/chandlerlaw13.OrderPlays", spec := "orderPlays", apart := false, narrowed := true }
def OrderPlaysUptoSaid : Prop := orderPlaysUptoRow.holds Try.pinned (OpenSpec.upto orderPlaysSpec)

/-- 'chandlerlaw13.OrderDrains', WHERE WHAT IT READS IS OF BULK AT MOST 1048576: true; the input reads as it did. -/
def orderDrainsUptoRow : OpenClaim := { program := "ytbjllcjjibjgoaa", sum := "93ac0cc5d890e291c34f887b93d7b68ca16311ec72568904ac559eabc06befe3", func := "chandler/chandlerlaw13.OrderDrains", spec := "orderDrains", apart := false, narrowed := true }
def OrderDrainsUptoSaid : Prop := orderDrainsUptoRow.holds Try.pinned (OpenSpec.upto orderDrainsSpec)

/-- 'chandlerlaw13.OrderLubys', WHERE WHAT IT READS IS OF BULK AT MOST 1048576: true; the input reads as it did. -/
def orderLubysUptoRow : OpenClaim := { program := "ytbjllcjjibjgoaa", sum := "93ac0cc5d890e291c34f887b93d7b68ca16311ec72568904ac559eabc06befe3", func := "chandler/chandlerlaw13.OrderLubys", spec := "orderLubys", apart := false, narrowed := true }
def OrderLubysUptoSaid : Prop := orderLubysUptoRow.holds Try.pinned (OpenSpec.upto orderLubysSpec)

/-- 'chandlerlaw13.OrderTurns', WHERE WHAT IT READS IS OF BULK AT MOST 1048576: true; the input reads as it did. -/
def orderTurnsUptoRow : OpenClaim := { program := "ytbjllcjjibjgoaa", sum := "93ac0cc5d890e291c34f887b93d7b68ca16311ec72568904ac559eabc06befe3", func := "chandler/chandlerlaw13.OrderTurns", spec := "orderTurns", apart := false, narrowed := true }
def OrderTurnsUptoSaid : Prop := orderTurnsUptoRow.holds Try.pinned (OpenSpec.upto orderTurnsSpec)

/-- 'chandlerlaw13.OrderNils', WHERE WHAT IT READS IS OF BULK AT MOST 1048576: true; the input reads as it did. -/
def orderNilsUptoRow : OpenClaim := { program := "ytbjllcjjibjgoaa", sum := "93ac0cc5d890e291c34f887b93d7b68ca16311ec72568904ac559eabc06befe3", func := "chandler/chandlerlaw13.OrderNils", spec := "orderNils", apart := false, narrowed := true }
def OrderNilsUptoSaid : Prop := orderNilsUptoRow.holds Try.pinned (OpenSpec.upto orderNilsSpec)

/-- 'chandlerlaw13.OrderBumps', WHERE WHAT IT READS IS OF BULK AT MOST 1048576: true; the input reads as it did. -/
def orderBumpsUptoRow : OpenClaim := { program := "ytbjllcjjibjgoaa", sum := "93ac0cc5d890e291c34f887b93d7b68ca16311ec72568904ac559eabc06befe3", func := "chandler/chandlerlaw13.OrderBumps", spec := "orderBumps", apart := false, narrowed := true }
def OrderBumpsUptoSaid : Prop := orderBumpsUptoRow.holds Try.pinned (OpenSpec.upto orderBumpsSpec)

end Rows
end Go.Proofs.Ytbjllcjjibjgoaa
