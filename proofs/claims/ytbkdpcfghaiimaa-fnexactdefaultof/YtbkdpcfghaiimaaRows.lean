/-
  No cell of these rows narrows 'for every input' (looked for: loops, veiled, ifaces, maps, wideKeys, modest, calm, conditions, laid).
  DERIVED. THE GIVEN ROWS OF THIS SEAT. 8 by the template 'for every input the law returns true; each argument reads behind the call as it read before'; 0 by the template 'total and deterministic' (their statements: YtbkdpcfghaiimaaTotals.lean).
  GIVEN WITH THE SEED: the statements are not yours to turn. If you find one false, say at which input.
  Laid BY PROGRAM, IN A SANDBOX (cutbox-rows.mjs): the forced cells as the released guide's own fill.sh prints them over the translation 0cbc5bf55d0bb118… (all of the seat's roots in one cut). By AI agents, Wed Nov 11 2026. No macro, syntax, notation, axiom, sorry.
-/
import Derived.Test.YtbkdpcfghaiimaaChecked
import GoSem.Claim
import GoSem.ClaimJoined
import GoSem.ClaimMapViews
import Derived.JoinedTies
import Derived.KernelRfl
namespace Go.Proofs.Ytbkdpcfghaiimaa
/- THE CELL 'sum', in the pinned program and in every row, IS THE sha256 OF THE DUMP (.gsa) THAT YtbkdpcfghaiimaaProg.lean LOADS. Nothing in Lean hashes anything: it is a label: what it is worth is what the hold of that sum in a sandbox is worth. -/
noncomputable def Try.pinned : Pinned := { name := "ytbkdpcfghaiimaa", sum := "0cbc5bf55d0bb118b45b797b048d31f47a03fb594b1c65d46d21c4a81f3b1395", checked := Try.checked }
namespace Rows
def none {H : Type} : Left H := { results := [], args := [] }

/-- 'laws.FnLattice': WHATEVER THE INPUT: true; the input reads as it did. -/
def fnLatticeSpec : ChangeSpec := { name := "fnLattice", fn := fun _ => fun
  | [d] => { results := [.lit (.bool true)], args := [d] }
  | _ => none }
def fnLatticeRow : OpenClaim := { program := "ytbkdpcfghaiimaa", sum := "0cbc5bf55d0bb118b45b797b048d31f47a03fb594b1c65d46d21c4a81f3b1395", func := "loop.example/g00333/laws.FnLattice", spec := "fnLattice", unfollowed := true, recurses := true, apart := false }
def FnLatticeSaid : Prop := fnLatticeRow.holds Try.pinned (OpenSpec.ofChange fnLatticeSpec)

/-- ITS FALSE NEIGHBOUR: 'it returns false'. Refute it at one input. -/
def fnLatticeWrong : ChangeSpec := { name := "fnLattice", fn := fun _ => fun
  | [d] => { results := [.lit (.bool false)], args := [d] }
  | _ => none }
def FnLatticeWrongFalsely : Prop := fnLatticeRow.holds Try.pinned (OpenSpec.ofChange fnLatticeWrong)

/-- 'laws.FnDefaults': WHATEVER THE INPUT: true; the input reads as it did. -/
def fnDefaultsSpec : ChangeSpec := { name := "fnDefaults", fn := fun _ => fun
  | [d1, d2] => { results := [.lit (.bool true)], args := [d1, d2] }
  | _ => none }
def fnDefaultsRow : OpenClaim := { program := "ytbkdpcfghaiimaa", sum := "0cbc5bf55d0bb118b45b797b048d31f47a03fb594b1c65d46d21c4a81f3b1395", func := "loop.example/g00333/laws.FnDefaults", spec := "fnDefaults", unfollowed := true, recurses := true, apart := false }
def FnDefaultsSaid : Prop := fnDefaultsRow.holds Try.pinned (OpenSpec.ofChange fnDefaultsSpec)

/-- ITS FALSE NEIGHBOUR: 'it returns false'. Refute it at one input. -/
def fnDefaultsWrong : ChangeSpec := { name := "fnDefaults", fn := fun _ => fun
  | [d1, d2] => { results := [.lit (.bool false)], args := [d1, d2] }
  | _ => none }
def FnDefaultsWrongFalsely : Prop := fnDefaultsRow.holds Try.pinned (OpenSpec.ofChange fnDefaultsWrong)

/-- 'laws.FnExactMeetOf': WHATEVER THE INPUT: true; the input reads as it did. -/
def fnExactMeetOfSpec : ChangeSpec := { name := "fnExactMeetOf", fn := fun _ => fun
  | [d1, d2] => { results := [.lit (.bool true)], args := [d1, d2] }
  | _ => none }
def fnExactMeetOfRow : OpenClaim := { program := "ytbkdpcfghaiimaa", sum := "0cbc5bf55d0bb118b45b797b048d31f47a03fb594b1c65d46d21c4a81f3b1395", func := "loop.example/g00333/laws.FnExactMeetOf", spec := "fnExactMeetOf", unfollowed := true, recurses := true, apart := false }
def FnExactMeetOfSaid : Prop := fnExactMeetOfRow.holds Try.pinned (OpenSpec.ofChange fnExactMeetOfSpec)

/-- ITS FALSE NEIGHBOUR: 'it returns false'. Refute it at one input. -/
def fnExactMeetOfWrong : ChangeSpec := { name := "fnExactMeetOf", fn := fun _ => fun
  | [d1, d2] => { results := [.lit (.bool false)], args := [d1, d2] }
  | _ => none }
def FnExactMeetOfWrongFalsely : Prop := fnExactMeetOfRow.holds Try.pinned (OpenSpec.ofChange fnExactMeetOfWrong)

/-- 'laws.FnExactJoinOf': WHATEVER THE INPUT: true; the input reads as it did. -/
def fnExactJoinOfSpec : ChangeSpec := { name := "fnExactJoinOf", fn := fun _ => fun
  | [d1, d2] => { results := [.lit (.bool true)], args := [d1, d2] }
  | _ => none }
def fnExactJoinOfRow : OpenClaim := { program := "ytbkdpcfghaiimaa", sum := "0cbc5bf55d0bb118b45b797b048d31f47a03fb594b1c65d46d21c4a81f3b1395", func := "loop.example/g00333/laws.FnExactJoinOf", spec := "fnExactJoinOf", unfollowed := true, recurses := true, apart := false }
def FnExactJoinOfSaid : Prop := fnExactJoinOfRow.holds Try.pinned (OpenSpec.ofChange fnExactJoinOfSpec)

/-- ITS FALSE NEIGHBOUR: 'it returns false'. Refute it at one input. -/
def fnExactJoinOfWrong : ChangeSpec := { name := "fnExactJoinOf", fn := fun _ => fun
  | [d1, d2] => { results := [.lit (.bool false)], args := [d1, d2] }
  | _ => none }
def FnExactJoinOfWrongFalsely : Prop := fnExactJoinOfRow.holds Try.pinned (OpenSpec.ofChange fnExactJoinOfWrong)

/-- 'laws.FnExactFitsSchema': WHATEVER THE INPUT: true; the input reads as it did. -/
def fnExactFitsSchemaSpec : ChangeSpec := { name := "fnExactFitsSchema", fn := fun _ => fun
  | [d1, d2] => { results := [.lit (.bool true)], args := [d1, d2] }
  | _ => none }
def fnExactFitsSchemaRow : OpenClaim := { program := "ytbkdpcfghaiimaa", sum := "0cbc5bf55d0bb118b45b797b048d31f47a03fb594b1c65d46d21c4a81f3b1395", func := "loop.example/g00333/laws.FnExactFitsSchema", spec := "fnExactFitsSchema", recurses := true, apart := false }
def FnExactFitsSchemaSaid : Prop := fnExactFitsSchemaRow.holds Try.pinned (OpenSpec.ofChange fnExactFitsSchemaSpec)

/-- ITS FALSE NEIGHBOUR: 'it returns false'. Refute it at one input. -/
def fnExactFitsSchemaWrong : ChangeSpec := { name := "fnExactFitsSchema", fn := fun _ => fun
  | [d1, d2] => { results := [.lit (.bool false)], args := [d1, d2] }
  | _ => none }
def FnExactFitsSchemaWrongFalsely : Prop := fnExactFitsSchemaRow.holds Try.pinned (OpenSpec.ofChange fnExactFitsSchemaWrong)

/-- 'laws.FnExactGetPart': WHATEVER THE INPUT: true; the input reads as it did. -/
def fnExactGetPartSpec : ChangeSpec := { name := "fnExactGetPart", fn := fun _ => fun
  | [d1, d2, d3] => { results := [.lit (.bool true)], args := [d1, d2, d3] }
  | _ => none }
def fnExactGetPartRow : OpenClaim := { program := "ytbkdpcfghaiimaa", sum := "0cbc5bf55d0bb118b45b797b048d31f47a03fb594b1c65d46d21c4a81f3b1395", func := "loop.example/g00333/laws.FnExactGetPart", spec := "fnExactGetPart", unfollowed := true, recurses := true, apart := false }
def FnExactGetPartSaid : Prop := fnExactGetPartRow.holds Try.pinned (OpenSpec.ofChange fnExactGetPartSpec)

/-- ITS FALSE NEIGHBOUR: 'it returns false'. Refute it at one input. -/
def fnExactGetPartWrong : ChangeSpec := { name := "fnExactGetPart", fn := fun _ => fun
  | [d1, d2, d3] => { results := [.lit (.bool false)], args := [d1, d2, d3] }
  | _ => none }
def FnExactGetPartWrongFalsely : Prop := fnExactGetPartRow.holds Try.pinned (OpenSpec.ofChange fnExactGetPartWrong)

/-- 'laws.FnExactDefaultOf': WHATEVER THE INPUT: true; the input reads as it did. -/
def fnExactDefaultOfSpec : ChangeSpec := { name := "fnExactDefaultOf", fn := fun _ => fun
  | [d] => { results := [.lit (.bool true)], args := [d] }
  | _ => none }
def fnExactDefaultOfRow : OpenClaim := { program := "ytbkdpcfghaiimaa", sum := "0cbc5bf55d0bb118b45b797b048d31f47a03fb594b1c65d46d21c4a81f3b1395", func := "loop.example/g00333/laws.FnExactDefaultOf", spec := "fnExactDefaultOf", recurses := true, apart := false }
def FnExactDefaultOfSaid : Prop := fnExactDefaultOfRow.holds Try.pinned (OpenSpec.ofChange fnExactDefaultOfSpec)

/-- ITS FALSE NEIGHBOUR: 'it returns false'. Refute it at one input. -/
def fnExactDefaultOfWrong : ChangeSpec := { name := "fnExactDefaultOf", fn := fun _ => fun
  | [d] => { results := [.lit (.bool false)], args := [d] }
  | _ => none }
def FnExactDefaultOfWrongFalsely : Prop := fnExactDefaultOfRow.holds Try.pinned (OpenSpec.ofChange fnExactDefaultOfWrong)

/-- 'laws.FnExactNodesIn': WHATEVER THE INPUT: true; the input reads as it did. -/
def fnExactNodesInSpec : ChangeSpec := { name := "fnExactNodesIn", fn := fun _ => fun
  | [d1, d2] => { results := [.lit (.bool true)], args := [d1, d2] }
  | _ => none }
def fnExactNodesInRow : OpenClaim := { program := "ytbkdpcfghaiimaa", sum := "0cbc5bf55d0bb118b45b797b048d31f47a03fb594b1c65d46d21c4a81f3b1395", func := "loop.example/g00333/laws.FnExactNodesIn", spec := "fnExactNodesIn", recurses := true, apart := false }
def FnExactNodesInSaid : Prop := fnExactNodesInRow.holds Try.pinned (OpenSpec.ofChange fnExactNodesInSpec)

/-- ITS FALSE NEIGHBOUR: 'it returns false'. Refute it at one input. -/
def fnExactNodesInWrong : ChangeSpec := { name := "fnExactNodesIn", fn := fun _ => fun
  | [d1, d2] => { results := [.lit (.bool false)], args := [d1, d2] }
  | _ => none }
def FnExactNodesInWrongFalsely : Prop := fnExactNodesInRow.holds Try.pinned (OpenSpec.ofChange fnExactNodesInWrong)

/- THE SECOND FORM. 'bulk': how many values and letters a reading holds, each counted each time it is reached (what is shared counts as often as it is met; a slice's spare places count too). A statement '..UptoSaid' is the law's where the arguments, and the package variables that the reading takes, are together of bulk at most 1048576: NARROWER than '..Said'. Prove '..Said' where nothing that the law and all that it calls make is longer than what came in: it says more and counts as full. Else prove '..UptoSaid'. A law counts once. -/
mutual
def uptoBulk {H : Type} : DataW H → Nat
  | .lit (.string bytes) => bytes.length + 1
  | .lit _ => 1
  | .nil => 1
  | .ptr d => uptoBulk d + 1
  | .slice elems spare => uptoBulkAll elems + uptoBulkAll spare + 1
  | .agg parts => uptoBulkAll parts + 1
  | .iface _ d => uptoBulk d + 1
  | .map entries => uptoBulkEntries entries + 1
  | .held _ => 1
def uptoBulkAll {H : Type} : List (DataW H) → Nat
  | [] => 0
  | d :: r => uptoBulk d + uptoBulkAll r
def uptoBulkEntries {H : Type} : List (Lit × DataW H) → Nat
  | [] => 0
  | x :: r => uptoBulkEntry x + uptoBulkEntries r
def uptoBulkEntry {H : Type} : Lit × DataW H → Nat
  | (.string bytes, d) => bytes.length + uptoBulk d + 1
  | (_, d) => uptoBulk d + 1
 end
def uptoSmall : (H : Type) → List (DataW H) → Bool := fun _ ds => decide (uptoBulkAll ds ≤ 1048576)
def OpenSpec.upto (s : _root_.Go.ChangeSpec) : _root_.Go.OpenSpec := { _root_.Go.OpenSpec.ofChange s with cond := some uptoSmall }

/-- 'laws.FnLattice', WHERE WHAT IT READS IS OF BULK AT MOST 1048576: true; the input reads as it did. -/
def fnLatticeUptoRow : OpenClaim := { program := "ytbkdpcfghaiimaa", sum := "0cbc5bf55d0bb118b45b797b048d31f47a03fb594b1c65d46d21c4a81f3b1395", func := "loop.example/g00333/laws.FnLattice", spec := "fnLattice", unfollowed := true, recurses := true, apart := false, narrowed := true }
def FnLatticeUptoSaid : Prop := fnLatticeUptoRow.holds Try.pinned (OpenSpec.upto fnLatticeSpec)

/-- 'laws.FnDefaults', WHERE WHAT IT READS IS OF BULK AT MOST 1048576: true; the input reads as it did. -/
def fnDefaultsUptoRow : OpenClaim := { program := "ytbkdpcfghaiimaa", sum := "0cbc5bf55d0bb118b45b797b048d31f47a03fb594b1c65d46d21c4a81f3b1395", func := "loop.example/g00333/laws.FnDefaults", spec := "fnDefaults", unfollowed := true, recurses := true, apart := false, narrowed := true }
def FnDefaultsUptoSaid : Prop := fnDefaultsUptoRow.holds Try.pinned (OpenSpec.upto fnDefaultsSpec)

/-- 'laws.FnExactMeetOf', WHERE WHAT IT READS IS OF BULK AT MOST 1048576: true; the input reads as it did. -/
def fnExactMeetOfUptoRow : OpenClaim := { program := "ytbkdpcfghaiimaa", sum := "0cbc5bf55d0bb118b45b797b048d31f47a03fb594b1c65d46d21c4a81f3b1395", func := "loop.example/g00333/laws.FnExactMeetOf", spec := "fnExactMeetOf", unfollowed := true, recurses := true, apart := false, narrowed := true }
def FnExactMeetOfUptoSaid : Prop := fnExactMeetOfUptoRow.holds Try.pinned (OpenSpec.upto fnExactMeetOfSpec)

/-- 'laws.FnExactJoinOf', WHERE WHAT IT READS IS OF BULK AT MOST 1048576: true; the input reads as it did. -/
def fnExactJoinOfUptoRow : OpenClaim := { program := "ytbkdpcfghaiimaa", sum := "0cbc5bf55d0bb118b45b797b048d31f47a03fb594b1c65d46d21c4a81f3b1395", func := "loop.example/g00333/laws.FnExactJoinOf", spec := "fnExactJoinOf", unfollowed := true, recurses := true, apart := false, narrowed := true }
def FnExactJoinOfUptoSaid : Prop := fnExactJoinOfUptoRow.holds Try.pinned (OpenSpec.upto fnExactJoinOfSpec)

/-- 'laws.FnExactFitsSchema', WHERE WHAT IT READS IS OF BULK AT MOST 1048576: true; the input reads as it did. -/
def fnExactFitsSchemaUptoRow : OpenClaim := { program := "ytbkdpcfghaiimaa", sum := "0cbc5bf55d0bb118b45b797b048d31f47a03fb594b1c65d46d21c4a81f3b1395", func := "loop.example/g00333/laws.FnExactFitsSchema", spec := "fnExactFitsSchema", recurses := true, apart := false, narrowed := true }
def FnExactFitsSchemaUptoSaid : Prop := fnExactFitsSchemaUptoRow.holds Try.pinned (OpenSpec.upto fnExactFitsSchemaSpec)

/-- 'laws.FnExactGetPart', WHERE WHAT IT READS IS OF BULK AT MOST 1048576: true; the input reads as it did. -/
def fnExactGetPartUptoRow : OpenClaim := { program := "ytbkdpcfghaiimaa", sum := "0cbc5bf55d0bb118b45b797b048d31f47a03fb594b1c65d46d21c4a81f3b1395", func := "loop.example/g00333/laws.FnExactGetPart", spec := "fnExactGetPart", unfollowed := true, recurses := true, apart := false, narrowed := true }
def FnExactGetPartUptoSaid : Prop := fnExactGetPartUptoRow.holds Try.pinned (OpenSpec.upto fnExactGetPartSpec)

/-- 'laws.FnExactDefaultOf', WHERE WHAT IT READS IS OF BULK AT MOST 1048576: true; the input reads as it did. -/
def fnExactDefaultOfUptoRow : OpenClaim := { program := "ytbkdpcfghaiimaa", sum := "0cbc5bf55d0bb118b45b797b048d31f47a03fb594b1c65d46d21c4a81f3b1395", func := "loop.example/g00333/laws.FnExactDefaultOf", spec := "fnExactDefaultOf", recurses := true, apart := false, narrowed := true }
def FnExactDefaultOfUptoSaid : Prop := fnExactDefaultOfUptoRow.holds Try.pinned (OpenSpec.upto fnExactDefaultOfSpec)

/-- 'laws.FnExactNodesIn', WHERE WHAT IT READS IS OF BULK AT MOST 1048576: true; the input reads as it did. -/
def fnExactNodesInUptoRow : OpenClaim := { program := "ytbkdpcfghaiimaa", sum := "0cbc5bf55d0bb118b45b797b048d31f47a03fb594b1c65d46d21c4a81f3b1395", func := "loop.example/g00333/laws.FnExactNodesIn", spec := "fnExactNodesIn", recurses := true, apart := false, narrowed := true }
def FnExactNodesInUptoSaid : Prop := fnExactNodesInUptoRow.holds Try.pinned (OpenSpec.upto fnExactNodesInSpec)

end Rows
end Go.Proofs.Ytbkdpcfghaiimaa
