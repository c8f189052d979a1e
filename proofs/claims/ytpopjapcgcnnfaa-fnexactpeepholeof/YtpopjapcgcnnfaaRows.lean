/-
  No cell of these rows narrows 'for every input' (looked for: loops, veiled, ifaces, maps, wideKeys, modest, calm, conditions, laid).
  DERIVED. THE GIVEN ROWS OF THIS SEAT. 10 by the template 'for every input the law returns true; each argument reads behind the call as it read before'; 0 by the template 'total and deterministic' (their statements: YtpopjapcgcnnfaaTotals.lean).
  GIVEN WITH THE SEED: the statements are not yours to turn. If you find one false, say at which input.
  Laid BY PROGRAM, IN A SANDBOX (cutbox-rows.mjs): the forced cells as the released guide's own fill.sh prints them over the translation 3f5b808c1ced3c65… (all of the seat's roots in one cut). By AI agents, Wed Nov 11 2026. No macro, syntax, notation, axiom, sorry.
-/
import Derived.Test.YtpopjapcgcnnfaaChecked
import GoSem.Claim
import GoSem.ClaimJoined
import GoSem.ClaimMapViews
import Derived.JoinedTies
import Derived.KernelRfl
namespace Go.Proofs.Ytpopjapcgcnnfaa
/- THE CELL 'sum', in the pinned program and in every row, IS THE sha256 OF THE DUMP (.gsa) THAT YtpopjapcgcnnfaaProg.lean LOADS. Nothing in Lean hashes anything: it is a label: what it is worth is what the hold of that sum in a sandbox is worth. -/
noncomputable def Try.pinned : Pinned := { name := "ytpopjapcgcnnfaa", sum := "3f5b808c1ced3c6542036954b8aabb732783b580151b79d8385f3f38e1dc5c20", checked := Try.checked }
namespace Rows
def none {H : Type} : Left H := { results := [], args := [] }

/-- 'laws.FnExactGoodProgram': WHATEVER THE INPUT: true; the input reads as it did. -/
def fnExactGoodProgramSpec : ChangeSpec := { name := "fnExactGoodProgram", fn := fun _ => fun
  | [d] => { results := [.lit (.bool true)], args := [d] }
  | _ => none }
def fnExactGoodProgramRow : OpenClaim := { program := "ytpopjapcgcnnfaa", sum := "3f5b808c1ced3c6542036954b8aabb732783b580151b79d8385f3f38e1dc5c20", func := "loop.example/g00333/laws.FnExactGoodProgram", spec := "fnExactGoodProgram", unfollowed := true, recurses := true, apart := false }
def FnExactGoodProgramSaid : Prop := fnExactGoodProgramRow.holds Try.pinned (OpenSpec.ofChange fnExactGoodProgramSpec)

/-- ITS FALSE NEIGHBOUR: 'it returns false'. Refute it at one input. -/
def fnExactGoodProgramWrong : ChangeSpec := { name := "fnExactGoodProgram", fn := fun _ => fun
  | [d] => { results := [.lit (.bool false)], args := [d] }
  | _ => none }
def FnExactGoodProgramWrongFalsely : Prop := fnExactGoodProgramRow.holds Try.pinned (OpenSpec.ofChange fnExactGoodProgramWrong)

/-- 'laws.FnExactStepsOf': WHATEVER THE INPUT: true; the input reads as it did. -/
def fnExactStepsOfSpec : ChangeSpec := { name := "fnExactStepsOf", fn := fun _ => fun
  | [d] => { results := [.lit (.bool true)], args := [d] }
  | _ => none }
def fnExactStepsOfRow : OpenClaim := { program := "ytpopjapcgcnnfaa", sum := "3f5b808c1ced3c6542036954b8aabb732783b580151b79d8385f3f38e1dc5c20", func := "loop.example/g00333/laws.FnExactStepsOf", spec := "fnExactStepsOf", unfollowed := true, recurses := true, apart := false }
def FnExactStepsOfSaid : Prop := fnExactStepsOfRow.holds Try.pinned (OpenSpec.ofChange fnExactStepsOfSpec)

/-- ITS FALSE NEIGHBOUR: 'it returns false'. Refute it at one input. -/
def fnExactStepsOfWrong : ChangeSpec := { name := "fnExactStepsOf", fn := fun _ => fun
  | [d] => { results := [.lit (.bool false)], args := [d] }
  | _ => none }
def FnExactStepsOfWrongFalsely : Prop := fnExactStepsOfRow.holds Try.pinned (OpenSpec.ofChange fnExactStepsOfWrong)

/-- 'laws.FnExactCompileFilter': WHATEVER THE INPUT: true; the input reads as it did. -/
def fnExactCompileFilterSpec : ChangeSpec := { name := "fnExactCompileFilter", fn := fun _ => fun
  | [d] => { results := [.lit (.bool true)], args := [d] }
  | _ => none }
def fnExactCompileFilterRow : OpenClaim := { program := "ytpopjapcgcnnfaa", sum := "3f5b808c1ced3c6542036954b8aabb732783b580151b79d8385f3f38e1dc5c20", func := "loop.example/g00333/laws.FnExactCompileFilter", spec := "fnExactCompileFilter", unfollowed := true, recurses := true, apart := false }
def FnExactCompileFilterSaid : Prop := fnExactCompileFilterRow.holds Try.pinned (OpenSpec.ofChange fnExactCompileFilterSpec)

/-- ITS FALSE NEIGHBOUR: 'it returns false'. Refute it at one input. -/
def fnExactCompileFilterWrong : ChangeSpec := { name := "fnExactCompileFilter", fn := fun _ => fun
  | [d] => { results := [.lit (.bool false)], args := [d] }
  | _ => none }
def FnExactCompileFilterWrongFalsely : Prop := fnExactCompileFilterRow.holds Try.pinned (OpenSpec.ofChange fnExactCompileFilterWrong)

/-- 'laws.FnExactPeepholeOf': WHATEVER THE INPUT: true; the input reads as it did. -/
def fnExactPeepholeOfSpec : ChangeSpec := { name := "fnExactPeepholeOf", fn := fun _ => fun
  | [d] => { results := [.lit (.bool true)], args := [d] }
  | _ => none }
def fnExactPeepholeOfRow : OpenClaim := { program := "ytpopjapcgcnnfaa", sum := "3f5b808c1ced3c6542036954b8aabb732783b580151b79d8385f3f38e1dc5c20", func := "loop.example/g00333/laws.FnExactPeepholeOf", spec := "fnExactPeepholeOf", unfollowed := true, recurses := true, apart := false }
def FnExactPeepholeOfSaid : Prop := fnExactPeepholeOfRow.holds Try.pinned (OpenSpec.ofChange fnExactPeepholeOfSpec)

/-- ITS FALSE NEIGHBOUR: 'it returns false'. Refute it at one input. -/
def fnExactPeepholeOfWrong : ChangeSpec := { name := "fnExactPeepholeOf", fn := fun _ => fun
  | [d] => { results := [.lit (.bool false)], args := [d] }
  | _ => none }
def FnExactPeepholeOfWrongFalsely : Prop := fnExactPeepholeOfRow.holds Try.pinned (OpenSpec.ofChange fnExactPeepholeOfWrong)

/-- 'laws.FnExactGoodFilter': WHATEVER THE INPUT: true; the input reads as it did. -/
def fnExactGoodFilterSpec : ChangeSpec := { name := "fnExactGoodFilter", fn := fun _ => fun
  | [d] => { results := [.lit (.bool true)], args := [d] }
  | _ => none }
def fnExactGoodFilterRow : OpenClaim := { program := "ytpopjapcgcnnfaa", sum := "3f5b808c1ced3c6542036954b8aabb732783b580151b79d8385f3f38e1dc5c20", func := "loop.example/g00333/laws.FnExactGoodFilter", spec := "fnExactGoodFilter", unfollowed := true, recurses := true, apart := false }
def FnExactGoodFilterSaid : Prop := fnExactGoodFilterRow.holds Try.pinned (OpenSpec.ofChange fnExactGoodFilterSpec)

/-- ITS FALSE NEIGHBOUR: 'it returns false'. Refute it at one input. -/
def fnExactGoodFilterWrong : ChangeSpec := { name := "fnExactGoodFilter", fn := fun _ => fun
  | [d] => { results := [.lit (.bool false)], args := [d] }
  | _ => none }
def FnExactGoodFilterWrongFalsely : Prop := fnExactGoodFilterRow.holds Try.pinned (OpenSpec.ofChange fnExactGoodFilterWrong)

/-- 'laws.FnExactFilterFits': WHATEVER THE INPUT: true; the input reads as it did. -/
def fnExactFilterFitsSpec : ChangeSpec := { name := "fnExactFilterFits", fn := fun _ => fun
  | [d1, d2] => { results := [.lit (.bool true)], args := [d1, d2] }
  | _ => none }
def fnExactFilterFitsRow : OpenClaim := { program := "ytpopjapcgcnnfaa", sum := "3f5b808c1ced3c6542036954b8aabb732783b580151b79d8385f3f38e1dc5c20", func := "loop.example/g00333/laws.FnExactFilterFits", spec := "fnExactFilterFits", unfollowed := true, recurses := true, apart := false }
def FnExactFilterFitsSaid : Prop := fnExactFilterFitsRow.holds Try.pinned (OpenSpec.ofChange fnExactFilterFitsSpec)

/-- ITS FALSE NEIGHBOUR: 'it returns false'. Refute it at one input. -/
def fnExactFilterFitsWrong : ChangeSpec := { name := "fnExactFilterFits", fn := fun _ => fun
  | [d1, d2] => { results := [.lit (.bool false)], args := [d1, d2] }
  | _ => none }
def FnExactFilterFitsWrongFalsely : Prop := fnExactFilterFitsRow.holds Try.pinned (OpenSpec.ofChange fnExactFilterFitsWrong)

/-- 'laws.FnExactNotFilter': WHATEVER THE INPUT: true; the input reads as it did. -/
def fnExactNotFilterSpec : ChangeSpec := { name := "fnExactNotFilter", fn := fun _ => fun
  | [d] => { results := [.lit (.bool true)], args := [d] }
  | _ => none }
def fnExactNotFilterRow : OpenClaim := { program := "ytpopjapcgcnnfaa", sum := "3f5b808c1ced3c6542036954b8aabb732783b580151b79d8385f3f38e1dc5c20", func := "loop.example/g00333/laws.FnExactNotFilter", spec := "fnExactNotFilter", unfollowed := true, recurses := true, apart := false }
def FnExactNotFilterSaid : Prop := fnExactNotFilterRow.holds Try.pinned (OpenSpec.ofChange fnExactNotFilterSpec)

/-- ITS FALSE NEIGHBOUR: 'it returns false'. Refute it at one input. -/
def fnExactNotFilterWrong : ChangeSpec := { name := "fnExactNotFilter", fn := fun _ => fun
  | [d] => { results := [.lit (.bool false)], args := [d] }
  | _ => none }
def FnExactNotFilterWrongFalsely : Prop := fnExactNotFilterRow.holds Try.pinned (OpenSpec.ofChange fnExactNotFilterWrong)

/-- 'laws.FnExactBothFilters': WHATEVER THE INPUT: true; the input reads as it did. -/
def fnExactBothFiltersSpec : ChangeSpec := { name := "fnExactBothFilters", fn := fun _ => fun
  | [d1, d2] => { results := [.lit (.bool true)], args := [d1, d2] }
  | _ => none }
def fnExactBothFiltersRow : OpenClaim := { program := "ytpopjapcgcnnfaa", sum := "3f5b808c1ced3c6542036954b8aabb732783b580151b79d8385f3f38e1dc5c20", func := "loop.example/g00333/laws.FnExactBothFilters", spec := "fnExactBothFilters", unfollowed := true, recurses := true, apart := false }
def FnExactBothFiltersSaid : Prop := fnExactBothFiltersRow.holds Try.pinned (OpenSpec.ofChange fnExactBothFiltersSpec)

/-- ITS FALSE NEIGHBOUR: 'it returns false'. Refute it at one input. -/
def fnExactBothFiltersWrong : ChangeSpec := { name := "fnExactBothFilters", fn := fun _ => fun
  | [d1, d2] => { results := [.lit (.bool false)], args := [d1, d2] }
  | _ => none }
def FnExactBothFiltersWrongFalsely : Prop := fnExactBothFiltersRow.holds Try.pinned (OpenSpec.ofChange fnExactBothFiltersWrong)

/-- 'laws.FnExactNosOf': WHATEVER THE INPUT: true; the input reads as it did. -/
def fnExactNosOfSpec : ChangeSpec := { name := "fnExactNosOf", fn := fun _ => fun
  | [d] => { results := [.lit (.bool true)], args := [d] }
  | _ => none }
def fnExactNosOfRow : OpenClaim := { program := "ytpopjapcgcnnfaa", sum := "3f5b808c1ced3c6542036954b8aabb732783b580151b79d8385f3f38e1dc5c20", func := "loop.example/g00333/laws.FnExactNosOf", spec := "fnExactNosOf", unfollowed := true, recurses := true, apart := false }
def FnExactNosOfSaid : Prop := fnExactNosOfRow.holds Try.pinned (OpenSpec.ofChange fnExactNosOfSpec)

/-- ITS FALSE NEIGHBOUR: 'it returns false'. Refute it at one input. -/
def fnExactNosOfWrong : ChangeSpec := { name := "fnExactNosOf", fn := fun _ => fun
  | [d] => { results := [.lit (.bool false)], args := [d] }
  | _ => none }
def FnExactNosOfWrongFalsely : Prop := fnExactNosOfRow.holds Try.pinned (OpenSpec.ofChange fnExactNosOfWrong)

/-- 'laws.FnExactDepthOf': WHATEVER THE INPUT: true; the input reads as it did. -/
def fnExactDepthOfSpec : ChangeSpec := { name := "fnExactDepthOf", fn := fun _ => fun
  | [d] => { results := [.lit (.bool true)], args := [d] }
  | _ => none }
def fnExactDepthOfRow : OpenClaim := { program := "ytpopjapcgcnnfaa", sum := "3f5b808c1ced3c6542036954b8aabb732783b580151b79d8385f3f38e1dc5c20", func := "loop.example/g00333/laws.FnExactDepthOf", spec := "fnExactDepthOf", unfollowed := true, recurses := true, apart := false }
def FnExactDepthOfSaid : Prop := fnExactDepthOfRow.holds Try.pinned (OpenSpec.ofChange fnExactDepthOfSpec)

/-- ITS FALSE NEIGHBOUR: 'it returns false'. Refute it at one input. -/
def fnExactDepthOfWrong : ChangeSpec := { name := "fnExactDepthOf", fn := fun _ => fun
  | [d] => { results := [.lit (.bool false)], args := [d] }
  | _ => none }
def FnExactDepthOfWrongFalsely : Prop := fnExactDepthOfRow.holds Try.pinned (OpenSpec.ofChange fnExactDepthOfWrong)

/- THE SECOND FORM. 'bulk': how many values and letters a reading holds, each counted each time it is reached (what is shared counts as often as it is met; a slice's spare places count too). A statement '..UptoSaid' is the law's where the arguments, and the package variables that the reading takes, are together of bulk at most 1048576: NARROWER than '..Said'. Prove '..Said' where nothing that the law and all that it calls make is longer than what came in: it says more and counts as full. Else prove '..UptoSaid'. A law counts once. -/
mutual
def uptoBulk {H : Type} : DataW H → Nat
  | .lit (.string bytes) => bytes.length + 1
  | .lit _ => 1
  | .nil => 1
  | .ptr d => uptoBulk d + 1
  | .slice elems spare => uptoBulkAll elems + uptoBulkAll spare + 1
  | .agg parts => uptoBulkAll parts + 1
  | .iface _ d => uptoBulk d + 1
  | .map entries => uptoBulkEntries entries + 1
  | .held _ => 1
def uptoBulkAll {H : Type} : List (DataW H) → Nat
  | [] => 0
  | d :: r => uptoBulk d + uptoBulkAll r
def uptoBulkEntries {H : Type} : List (Lit × DataW H) → Nat
  | [] => 0
  | x :: r => uptoBulkEntry x + uptoBulkEntries r
def uptoBulkEntry {H : Type} : Lit × DataW H → Nat
  | (.string bytes, d) => bytes.length + uptoBulk d + 1
  | (_, d) => uptoBulk d + 1
 end
def uptoSmall : (H : Type) → List (DataW H) → Bool := fun _ ds => decide (uptoBulkAll ds ≤ 1048576)
def OpenSpec.upto (s : _root_.Go.ChangeSpec) : _root_.Go.OpenSpec := { _root_.Go.OpenSpec.ofChange s with cond := some uptoSmall }

/-- 'laws.FnExactGoodProgram', WHERE WHAT IT READS IS OF BULK AT MOST 1048576: true; the input reads as it did. -/
def fnExactGoodProgramUptoRow : OpenClaim := { program := "ytpopjapcgcnnfaa", sum := "3f5b808c1ced3c6542036954b8aabb732783b580151b79d8385f3f38e1dc5c20", func := "loop.example/g00333/laws.FnExactGoodProgram", spec := "fnExactGoodProgram", unfollowed := true, recurses := true, apart := false, narrowed := true }
def FnExactGoodProgramUptoSaid : Prop := fnExactGoodProgramUptoRow.holds Try.pinned (OpenSpec.upto fnExactGoodProgramSpec)

/-- 'laws.FnExactStepsOf', WHERE WHAT IT READS IS OF BULK AT MOST 1048576: true; the input reads as it did. -/
def fnExactStepsOfUptoRow : OpenClaim := { program := "ytpopjapcgcnnfaa", sum := "3f5b808c1ced3c6542036954b8aabb732783b580151b79d8385f3f38e1dc5c20", func := "loop.example/g00333/laws.FnExactStepsOf", spec := "fnExactStepsOf", unfollowed := true, recurses := true, apart := false, narrowed := true }
def FnExactStepsOfUptoSaid : Prop := fnExactStepsOfUptoRow.holds Try.pinned (OpenSpec.upto fnExactStepsOfSpec)

/-- 'laws.FnExactCompileFilter', WHERE WHAT IT READS IS OF BULK AT MOST 1048576: true; the input reads as it did. -/
def fnExactCompileFilterUptoRow : OpenClaim := { program := "ytpopjapcgcnnfaa", sum := "3f5b808c1ced3c6542036954b8aabb732783b580151b79d8385f3f38e1dc5c20", func := "loop.example/g00333/laws.FnExactCompileFilter", spec := "fnExactCompileFilter", unfollowed := true, recurses := true, apart := false, narrowed := true }
def FnExactCompileFilterUptoSaid : Prop := fnExactCompileFilterUptoRow.holds Try.pinned (OpenSpec.upto fnExactCompileFilterSpec)

/-- 'laws.FnExactPeepholeOf', WHERE WHAT IT READS IS OF BULK AT MOST 1048576: true; the input reads as it did. -/
def fnExactPeepholeOfUptoRow : OpenClaim := { program := "ytpopjapcgcnnfaa", sum := "3f5b808c1ced3c6542036954b8aabb732783b580151b79d8385f3f38e1dc5c20", func := "loop.example/g00333/laws.FnExactPeepholeOf", spec := "fnExactPeepholeOf", unfollowed := true, recurses := true, apart := false, narrowed := true }
def FnExactPeepholeOfUptoSaid : Prop := fnExactPeepholeOfUptoRow.holds Try.pinned (OpenSpec.upto fnExactPeepholeOfSpec)

/-- 'laws.FnExactGoodFilter', WHERE WHAT IT READS IS OF BULK AT MOST 1048576: true; the input reads as it did. -/
def fnExactGoodFilterUptoRow : OpenClaim := { program := "ytpopjapcgcnnfaa", sum := "3f5b808c1ced3c6542036954b8aabb732783b580151b79d8385f3f38e1dc5c20", func := "loop.example/g00333/laws.FnExactGoodFilter", spec := "fnExactGoodFilter", unfollowed := true, recurses := true, apart := false, narrowed := true }
def FnExactGoodFilterUptoSaid : Prop := fnExactGoodFilterUptoRow.holds Try.pinned (OpenSpec.upto fnExactGoodFilterSpec)

/-- 'laws.FnExactFilterFits', WHERE WHAT IT READS IS OF BULK AT MOST 1048576: true; the input reads as it did. -/
def fnExactFilterFitsUptoRow : OpenClaim := { program := "ytpopjapcgcnnfaa", sum := "3f5b808c1ced3c6542036954b8aabb732783b580151b79d8385f3f38e1dc5c20", func := "loop.example/g00333/laws.FnExactFilterFits", spec := "fnExactFilterFits", unfollowed := true, recurses := true, apart := false, narrowed := true }
def FnExactFilterFitsUptoSaid : Prop := fnExactFilterFitsUptoRow.holds Try.pinned (OpenSpec.upto fnExactFilterFitsSpec)

/-- 'laws.FnExactNotFilter', WHERE WHAT IT READS IS OF BULK AT MOST 1048576: true; the input reads as it did. -/
def fnExactNotFilterUptoRow : OpenClaim := { program := "ytpopjapcgcnnfaa", sum := "3f5b808c1ced3c6542036954b8aabb732783b580151b79d8385f3f38e1dc5c20", func := "loop.example/g00333/laws.FnExactNotFilter", spec := "fnExactNotFilter", unfollowed := true, recurses := true, apart := false, narrowed := true }
def FnExactNotFilterUptoSaid : Prop := fnExactNotFilterUptoRow.holds Try.pinned (OpenSpec.upto fnExactNotFilterSpec)

/-- 'laws.FnExactBothFilters', WHERE WHAT IT READS IS OF BULK AT MOST 1048576: true; the input reads as it did. -/
def fnExactBothFiltersUptoRow : OpenClaim := { program := "ytpopjapcgcnnfaa", sum := "3f5b808c1ced3c6542036954b8aabb732783b580151b79d8385f3f38e1dc5c20", func := "loop.example/g00333/laws.FnExactBothFilters", spec := "fnExactBothFilters", unfollowed := true, recurses := true, apart := false, narrowed := true }
def FnExactBothFiltersUptoSaid : Prop := fnExactBothFiltersUptoRow.holds Try.pinned (OpenSpec.upto fnExactBothFiltersSpec)

/-- 'laws.FnExactNosOf', WHERE WHAT IT READS IS OF BULK AT MOST 1048576: true; the input reads as it did. -/
def fnExactNosOfUptoRow : OpenClaim := { program := "ytpopjapcgcnnfaa", sum := "3f5b808c1ced3c6542036954b8aabb732783b580151b79d8385f3f38e1dc5c20", func := "loop.example/g00333/laws.FnExactNosOf", spec := "fnExactNosOf", unfollowed := true, recurses := true, apart := false, narrowed := true }
def FnExactNosOfUptoSaid : Prop := fnExactNosOfUptoRow.holds Try.pinned (OpenSpec.upto fnExactNosOfSpec)

/-- 'laws.FnExactDepthOf', WHERE WHAT IT READS IS OF BULK AT MOST 1048576: true; the input reads as it did. -/
def fnExactDepthOfUptoRow : OpenClaim := { program := "ytpopjapcgcnnfaa", sum := "3f5b808c1ced3c6542036954b8aabb732783b580151b79d8385f3f38e1dc5c20", func := "loop.example/g00333/laws.FnExactDepthOf", spec := "fnExactDepthOf", unfollowed := true, recurses := true, apart := false, narrowed := true }
def FnExactDepthOfUptoSaid : Prop := fnExactDepthOfUptoRow.holds Try.pinned (OpenSpec.upto fnExactDepthOfSpec)

end Rows
end Go.Proofs.Ytpopjapcgcnnfaa
