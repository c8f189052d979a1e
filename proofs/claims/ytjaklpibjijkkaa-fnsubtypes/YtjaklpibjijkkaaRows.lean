/-
  No cell of these rows narrows 'for every input' (looked for: loops, veiled, ifaces, maps, wideKeys, modest, calm, conditions, laid).
  DERIVED. THE GIVEN ROWS OF THIS SEAT. 6 by the template 'for every input the law returns true; each argument reads behind the call as it read before'; 0 by the template 'total and deterministic' (their statements: YtjaklpibjijkkaaTotals.lean).
  GIVEN WITH THE SEED: the statements are not yours to turn. If you find one false, say at which input.
  Laid BY PROGRAM, IN A SANDBOX (cutbox-rows.mjs): the forced cells as the released guide's own fill.sh prints them over the translation 38b1051054790700… (all of the seat's roots in one cut). By AI agents, Wed Nov 11 2026. No macro, syntax, notation, axiom, sorry.
-/
import Derived.Test.YtjaklpibjijkkaaChecked
import GoSem.Claim
import GoSem.ClaimJoined
import GoSem.ClaimMapViews
import Derived.JoinedTies
import Derived.KernelRfl
namespace Go.Proofs.Ytjaklpibjijkkaa
/- THE CELL 'sum', in the pinned program and in every row, IS THE sha256 OF THE DUMP (.gsa) THAT YtjaklpibjijkkaaProg.lean LOADS. Nothing in Lean hashes anything: it is a label: what it is worth is what the hold of that sum in a sandbox is worth. -/
noncomputable def Try.pinned : Pinned := { name := "ytjaklpibjijkkaa", sum := "38b105105479070011009bb9c6172f5df09ac83ba7bcd67ec9a5253c29cda090", checked := Try.checked }
namespace Rows
def none {H : Type} : Left H := { results := [], args := [] }

/-- 'laws.FnExactIsSubtype': WHATEVER THE INPUT: true; the input reads as it did. -/
def fnExactIsSubtypeSpec : ChangeSpec := { name := "fnExactIsSubtype", fn := fun _ => fun
  | [d1, d2] => { results := [.lit (.bool true)], args := [d1, d2] }
  | _ => none }
def fnExactIsSubtypeRow : OpenClaim := { program := "ytjaklpibjijkkaa", sum := "38b105105479070011009bb9c6172f5df09ac83ba7bcd67ec9a5253c29cda090", func := "loop.example/g00333/laws.FnExactIsSubtype", spec := "fnExactIsSubtype", unfollowed := true, recurses := true, apart := false }
def FnExactIsSubtypeSaid : Prop := fnExactIsSubtypeRow.holds Try.pinned (OpenSpec.ofChange fnExactIsSubtypeSpec)

/-- ITS FALSE NEIGHBOUR: 'it returns false'. Refute it at one input. -/
def fnExactIsSubtypeWrong : ChangeSpec := { name := "fnExactIsSubtype", fn := fun _ => fun
  | [d1, d2] => { results := [.lit (.bool false)], args := [d1, d2] }
  | _ => none }
def FnExactIsSubtypeWrongFalsely : Prop := fnExactIsSubtypeRow.holds Try.pinned (OpenSpec.ofChange fnExactIsSubtypeWrong)

/-- 'laws.FnExactSubSchema': WHATEVER THE INPUT: true; the input reads as it did. -/
def fnExactSubSchemaSpec : ChangeSpec := { name := "fnExactSubSchema", fn := fun _ => fun
  | [d1, d2] => { results := [.lit (.bool true)], args := [d1, d2] }
  | _ => none }
def fnExactSubSchemaRow : OpenClaim := { program := "ytjaklpibjijkkaa", sum := "38b105105479070011009bb9c6172f5df09ac83ba7bcd67ec9a5253c29cda090", func := "loop.example/g00333/laws.FnExactSubSchema", spec := "fnExactSubSchema", unfollowed := true, recurses := true, apart := false }
def FnExactSubSchemaSaid : Prop := fnExactSubSchemaRow.holds Try.pinned (OpenSpec.ofChange fnExactSubSchemaSpec)

/-- ITS FALSE NEIGHBOUR: 'it returns false'. Refute it at one input. -/
def fnExactSubSchemaWrong : ChangeSpec := { name := "fnExactSubSchema", fn := fun _ => fun
  | [d1, d2] => { results := [.lit (.bool false)], args := [d1, d2] }
  | _ => none }
def FnExactSubSchemaWrongFalsely : Prop := fnExactSubSchemaRow.holds Try.pinned (OpenSpec.ofChange fnExactSubSchemaWrong)

/-- 'laws.FnExactMeetOf': WHATEVER THE INPUT: true; the input reads as it did. -/
def fnExactMeetOfSpec : ChangeSpec := { name := "fnExactMeetOf", fn := fun _ => fun
  | [d1, d2] => { results := [.lit (.bool true)], args := [d1, d2] }
  | _ => none }
def fnExactMeetOfRow : OpenClaim := { program := "ytjaklpibjijkkaa", sum := "38b105105479070011009bb9c6172f5df09ac83ba7bcd67ec9a5253c29cda090", func := "loop.example/g00333/laws.FnExactMeetOf", spec := "fnExactMeetOf", unfollowed := true, recurses := true, apart := false }
def FnExactMeetOfSaid : Prop := fnExactMeetOfRow.holds Try.pinned (OpenSpec.ofChange fnExactMeetOfSpec)

/-- ITS FALSE NEIGHBOUR: 'it returns false'. Refute it at one input. -/
def fnExactMeetOfWrong : ChangeSpec := { name := "fnExactMeetOf", fn := fun _ => fun
  | [d1, d2] => { results := [.lit (.bool false)], args := [d1, d2] }
  | _ => none }
def FnExactMeetOfWrongFalsely : Prop := fnExactMeetOfRow.holds Try.pinned (OpenSpec.ofChange fnExactMeetOfWrong)

/-- 'laws.FnExactJoinOf': WHATEVER THE INPUT: true; the input reads as it did. -/
def fnExactJoinOfSpec : ChangeSpec := { name := "fnExactJoinOf", fn := fun _ => fun
  | [d1, d2] => { results := [.lit (.bool true)], args := [d1, d2] }
  | _ => none }
def fnExactJoinOfRow : OpenClaim := { program := "ytjaklpibjijkkaa", sum := "38b105105479070011009bb9c6172f5df09ac83ba7bcd67ec9a5253c29cda090", func := "loop.example/g00333/laws.FnExactJoinOf", spec := "fnExactJoinOf", unfollowed := true, recurses := true, apart := false }
def FnExactJoinOfSaid : Prop := fnExactJoinOfRow.holds Try.pinned (OpenSpec.ofChange fnExactJoinOfSpec)

/-- ITS FALSE NEIGHBOUR: 'it returns false'. Refute it at one input. -/
def fnExactJoinOfWrong : ChangeSpec := { name := "fnExactJoinOf", fn := fun _ => fun
  | [d1, d2] => { results := [.lit (.bool false)], args := [d1, d2] }
  | _ => none }
def FnExactJoinOfWrongFalsely : Prop := fnExactJoinOfRow.holds Try.pinned (OpenSpec.ofChange fnExactJoinOfWrong)

/-- 'laws.FnSubtypes': WHATEVER THE INPUT: true; the input reads as it did. -/
def fnSubtypesSpec : ChangeSpec := { name := "fnSubtypes", fn := fun _ => fun
  | [d1, d2] => { results := [.lit (.bool true)], args := [d1, d2] }
  | _ => none }
def fnSubtypesRow : OpenClaim := { program := "ytjaklpibjijkkaa", sum := "38b105105479070011009bb9c6172f5df09ac83ba7bcd67ec9a5253c29cda090", func := "loop.example/g00333/laws.FnSubtypes", spec := "fnSubtypes", unfollowed := true, recurses := true, apart := false }
def FnSubtypesSaid : Prop := fnSubtypesRow.holds Try.pinned (OpenSpec.ofChange fnSubtypesSpec)

/-- ITS FALSE NEIGHBOUR: 'it returns false'. Refute it at one input. -/
def fnSubtypesWrong : ChangeSpec := { name := "fnSubtypes", fn := fun _ => fun
  | [d1, d2] => { results := [.lit (.bool false)], args := [d1, d2] }
  | _ => none }
def FnSubtypesWrongFalsely : Prop := fnSubtypesRow.holds Try.pinned (OpenSpec.ofChange fnSubtypesWrong)

/-- 'laws.FnLattice': WHATEVER THE INPUT: true; the input reads as it did. -/
def fnLatticeSpec : ChangeSpec := { name := "fnLattice", fn := fun _ => fun
  | [d] => { results := [.lit (.bool true)], args := [d] }
  | _ => none }
def fnLatticeRow : OpenClaim := { program := "ytjaklpibjijkkaa", sum := "38b105105479070011009bb9c6172f5df09ac83ba7bcd67ec9a5253c29cda090", func := "loop.example/g00333/laws.FnLattice", spec := "fnLattice", unfollowed := true, recurses := true, apart := false }
def FnLatticeSaid : Prop := fnLatticeRow.holds Try.pinned (OpenSpec.ofChange fnLatticeSpec)

/-- ITS FALSE NEIGHBOUR: 'it returns false'. Refute it at one input. -/
def fnLatticeWrong : ChangeSpec := { name := "fnLattice", fn := fun _ => fun
  | [d] => { results := [.lit (.bool false)], args := [d] }
  | _ => none }
def FnLatticeWrongFalsely : Prop := fnLatticeRow.holds Try.pinned (OpenSpec.ofChange fnLatticeWrong)

/- THE SECOND FORM. 'bulk': how many values and letters a reading holds, each counted each time it is reached (what is shared counts as often as it is met; a slice's spare places count too). A statement '..UptoSaid' is the law's where the arguments, and the package variables that the reading takes, are together of bulk at most 1048576: NARROWER than '..Said'. Prove '..Said' where nothing that the law and all that it calls make is longer than what came in: it says more and counts as full. Else prove '..UptoSaid'. A law counts once. -/
mutual
def uptoBulk {H : Type} : DataW H → Nat
  | .lit (.string bytes) => bytes.length + 1
  | .lit _ => 1
  | .nil => 1
  | .ptr d => uptoBulk d + 1
  | .slice elems spare => uptoBulkAll elems + uptoBulkAll spare + 1
  | .agg parts => uptoBulkAll parts + 1
  | .iface _ d => uptoBulk d + 1
  | .map entries => uptoBulkEntries entries + 1
  | .held _ => 1
def uptoBulkAll {H : Type} : List (DataW H) → Nat
  | [] => 0
  | d :: r => uptoBulk d + uptoBulkAll r
def uptoBulkEntries {H : Type} : List (Lit × DataW H) → Nat
  | [] => 0
  | x :: r => uptoBulkEntry x + uptoBulkEntries r
def uptoBulkEntry {H : Type} : Lit × DataW H → Nat
  | (.string bytes, d) => bytes.length + uptoBulk d + 1
  | (_, d) => uptoBulk d + 1
 end
def uptoSmall : (H : Type) → List (DataW H) → Bool := fun _ ds => decide (uptoBulkAll ds ≤ 1048576)
def OpenSpec.upto (s : _root_.Go.ChangeSpec) : _root_.Go.OpenSpec := { _root_.Go.OpenSpec.ofChange s with cond := some uptoSmall }

/-- 'laws.FnExactIsSubtype', WHERE WHAT IT READS IS OF BULK AT MOST 1048576: true; the input reads as it did. -/
def fnExactIsSubtypeUptoRow : OpenClaim := { program := "ytjaklpibjijkkaa", sum := "38b105105479070011009bb9c6172f5df09ac83ba7bcd67ec9a5253c29cda090", func := "loop.example/g00333/laws.FnExactIsSubtype", spec := "fnExactIsSubtype", unfollowed := true, recurses := true, apart := false, narrowed := true }
def FnExactIsSubtypeUptoSaid : Prop := fnExactIsSubtypeUptoRow.holds Try.pinned (OpenSpec.upto fnExactIsSubtypeSpec)

/-- 'laws.FnExactSubSchema', WHERE WHAT IT READS IS OF BULK AT MOST 1048576: true; the input reads as it did. -/
def fnExactSubSchemaUptoRow : OpenClaim := { program := "ytjaklpibjijkkaa", sum := "38b105105479070011009bb9c6172f5df09ac83ba7bcd67ec9a5253c29cda090", func := "loop.example/g00333/laws.FnExactSubSchema", spec := "fnExactSubSchema", unfollowed := true, recurses := true, apart := false, narrowed := true }
def FnExactSubSchemaUptoSaid : Prop := fnExactSubSchemaUptoRow.holds Try.pinned (OpenSpec.upto fnExactSubSchemaSpec)

/-- 'laws.FnExactMeetOf', WHERE WHAT IT READS IS OF BULK AT MOST 1048576: true; the input reads as it did. -/
def fnExactMeetOfUptoRow : OpenClaim := { program := "ytjaklpibjijkkaa", sum := "38b105105479070011009bb9c6172f5df09ac83ba7bcd67ec9a5253c29cda090", func := "loop.example/g00333/laws.FnExactMeetOf", spec := "fnExactMeetOf", unfollowed := true, recurses := true, apart := false, narrowed := true }
def FnExactMeetOfUptoSaid : Prop := fnExactMeetOfUptoRow.holds Try.pinned (OpenSpec.upto fnExactMeetOfSpec)

/-- 'laws.FnExactJoinOf', WHERE WHAT IT READS IS OF BULK AT MOST 1048576: true; the input reads as it did. -/
def fnExactJoinOfUptoRow : OpenClaim := { program := "ytjaklpibjijkkaa", sum := "38b105105479070011009bb9c6172f5df09ac83ba7bcd67ec9a5253c29cda090", func := "loop.example/g00333/laws.FnExactJoinOf", spec := "fnExactJoinOf", unfollowed := true, recurses := true, apart := false, narrowed := true }
def FnExactJoinOfUptoSaid : Prop := fnExactJoinOfUptoRow.holds Try.pinned (OpenSpec.upto fnExactJoinOfSpec)

/-- 'laws.FnSubtypes', WHERE WHAT IT READS IS OF BULK AT MOST 1048576: true; the input reads as it did. -/
def fnSubtypesUptoRow : OpenClaim := { program := "ytjaklpibjijkkaa", sum := "38b105105479070011009bb9c6172f5df09ac83ba7bcd67ec9a5253c29cda090", func := "loop.example/g00333/laws.FnSubtypes", spec := "fnSubtypes", unfollowed := true, recurses := true, apart := false, narrowed := true }
def FnSubtypesUptoSaid : Prop := fnSubtypesUptoRow.holds Try.pinned (OpenSpec.upto fnSubtypesSpec)

/-- 'laws.FnLattice', WHERE WHAT IT READS IS OF BULK AT MOST 1048576: true; the input reads as it did. -/
def fnLatticeUptoRow : OpenClaim := { program := "ytjaklpibjijkkaa", sum := "38b105105479070011009bb9c6172f5df09ac83ba7bcd67ec9a5253c29cda090", func := "loop.example/g00333/laws.FnLattice", spec := "fnLattice", unfollowed := true, recurses := true, apart := false, narrowed := true }
def FnLatticeUptoSaid : Prop := fnLatticeUptoRow.holds Try.pinned (OpenSpec.upto fnLatticeSpec)

end Rows
end Go.Proofs.Ytjaklpibjijkkaa
