/-
  No cell of these rows narrows 'for every input' (looked for: loops, veiled, ifaces, maps, wideKeys, modest, calm, conditions, laid).
  DERIVED. THE GIVEN ROWS OF THIS SEAT. 6 by the template 'for every input the law returns true; each argument reads behind the call as it read before'; 0 by the template 'total and deterministic' (their statements: YtbbhldnedfgjnaaTotals.lean).
  GIVEN WITH THE SEED: the statements are not yours to turn. If you find one false, say at which input.
  Laid BY PROGRAM, IN A SANDBOX (cutbox-rows.mjs): the forced cells as the released guide's own fill.sh prints them over the translation f2429e03a2714448… (all of the seat's roots in one cut). By AI agents, Wed Nov 11 2026. No macro, syntax, notation, axiom, sorry.
-/
import Derived.Test.YtbbhldnedfgjnaaChecked
import GoSem.Claim
import GoSem.ClaimJoined
import GoSem.ClaimMapViews
import Derived.JoinedTies
import Derived.KernelRfl
namespace Go.Proofs.Ytbbhldnedfgjnaa
/- THE CELL 'sum', in the pinned program and in every row, IS THE sha256 OF THE DUMP (.gsa) THAT YtbbhldnedfgjnaaProg.lean LOADS. Nothing in Lean hashes anything: it is a label: what it is worth is what the hold of that sum in a sandbox is worth. -/
noncomputable def Try.pinned : Pinned := { name := "ytbbhldnedfgjnaa", sum := "f2429e03a2714448113e2015397e0f5c8dd01b753a8e4a11682f6da1deeba9c1", checked := Try.checked }
namespace Rows
def none {H : Type} : Left H := { results := [], args := [] }

/-- 'laws.FnExactGoodFilter': WHATEVER THE INPUT: true; the input reads as it did. -/
def fnExactGoodFilterSpec : ChangeSpec := { name := "fnExactGoodFilter", fn := fun _ => fun
  | [d] => { results := [.lit (.bool true)], args := [d] }
  | _ => none }
def fnExactGoodFilterRow : OpenClaim := { program := "ytbbhldnedfgjnaa", sum := "f2429e03a2714448113e2015397e0f5c8dd01b753a8e4a11682f6da1deeba9c1", func := "loop.example/g00333/laws.FnExactGoodFilter", spec := "fnExactGoodFilter", unfollowed := true, recurses := true, apart := false }
def FnExactGoodFilterSaid : Prop := fnExactGoodFilterRow.holds Try.pinned (OpenSpec.ofChange fnExactGoodFilterSpec)

/-- ITS FALSE NEIGHBOUR: 'it returns false'. Refute it at one input. -/
def fnExactGoodFilterWrong : ChangeSpec := { name := "fnExactGoodFilter", fn := fun _ => fun
  | [d] => { results := [.lit (.bool false)], args := [d] }
  | _ => none }
def FnExactGoodFilterWrongFalsely : Prop := fnExactGoodFilterRow.holds Try.pinned (OpenSpec.ofChange fnExactGoodFilterWrong)

/-- 'laws.FnExactFilterFits': WHATEVER THE INPUT: true; the input reads as it did. -/
def fnExactFilterFitsSpec : ChangeSpec := { name := "fnExactFilterFits", fn := fun _ => fun
  | [d1, d2] => { results := [.lit (.bool true)], args := [d1, d2] }
  | _ => none }
def fnExactFilterFitsRow : OpenClaim := { program := "ytbbhldnedfgjnaa", sum := "f2429e03a2714448113e2015397e0f5c8dd01b753a8e4a11682f6da1deeba9c1", func := "loop.example/g00333/laws.FnExactFilterFits", spec := "fnExactFilterFits", unfollowed := true, recurses := true, apart := false }
def FnExactFilterFitsSaid : Prop := fnExactFilterFitsRow.holds Try.pinned (OpenSpec.ofChange fnExactFilterFitsSpec)

/-- ITS FALSE NEIGHBOUR: 'it returns false'. Refute it at one input. -/
def fnExactFilterFitsWrong : ChangeSpec := { name := "fnExactFilterFits", fn := fun _ => fun
  | [d1, d2] => { results := [.lit (.bool false)], args := [d1, d2] }
  | _ => none }
def FnExactFilterFitsWrongFalsely : Prop := fnExactFilterFitsRow.holds Try.pinned (OpenSpec.ofChange fnExactFilterFitsWrong)

/-- 'laws.FnExactNotFilter': WHATEVER THE INPUT: true; the input reads as it did. -/
def fnExactNotFilterSpec : ChangeSpec := { name := "fnExactNotFilter", fn := fun _ => fun
  | [d] => { results := [.lit (.bool true)], args := [d] }
  | _ => none }
def fnExactNotFilterRow : OpenClaim := { program := "ytbbhldnedfgjnaa", sum := "f2429e03a2714448113e2015397e0f5c8dd01b753a8e4a11682f6da1deeba9c1", func := "loop.example/g00333/laws.FnExactNotFilter", spec := "fnExactNotFilter", unfollowed := true, recurses := true, apart := false }
def FnExactNotFilterSaid : Prop := fnExactNotFilterRow.holds Try.pinned (OpenSpec.ofChange fnExactNotFilterSpec)

/-- ITS FALSE NEIGHBOUR: 'it returns false'. Refute it at one input. -/
def fnExactNotFilterWrong : ChangeSpec := { name := "fnExactNotFilter", fn := fun _ => fun
  | [d] => { results := [.lit (.bool false)], args := [d] }
  | _ => none }
def FnExactNotFilterWrongFalsely : Prop := fnExactNotFilterRow.holds Try.pinned (OpenSpec.ofChange fnExactNotFilterWrong)

/-- 'laws.FnExactBothFilters': WHATEVER THE INPUT: true; the input reads as it did. -/
def fnExactBothFiltersSpec : ChangeSpec := { name := "fnExactBothFilters", fn := fun _ => fun
  | [d1, d2] => { results := [.lit (.bool true)], args := [d1, d2] }
  | _ => none }
def fnExactBothFiltersRow : OpenClaim := { program := "ytbbhldnedfgjnaa", sum := "f2429e03a2714448113e2015397e0f5c8dd01b753a8e4a11682f6da1deeba9c1", func := "loop.example/g00333/laws.FnExactBothFilters", spec := "fnExactBothFilters", unfollowed := true, recurses := true, apart := false }
def FnExactBothFiltersSaid : Prop := fnExactBothFiltersRow.holds Try.pinned (OpenSpec.ofChange fnExactBothFiltersSpec)

/-- ITS FALSE NEIGHBOUR: 'it returns false'. Refute it at one input. -/
def fnExactBothFiltersWrong : ChangeSpec := { name := "fnExactBothFilters", fn := fun _ => fun
  | [d1, d2] => { results := [.lit (.bool false)], args := [d1, d2] }
  | _ => none }
def FnExactBothFiltersWrongFalsely : Prop := fnExactBothFiltersRow.holds Try.pinned (OpenSpec.ofChange fnExactBothFiltersWrong)

/-- 'laws.FnExactNosOf': WHATEVER THE INPUT: true; the input reads as it did. -/
def fnExactNosOfSpec : ChangeSpec := { name := "fnExactNosOf", fn := fun _ => fun
  | [d] => { results := [.lit (.bool true)], args := [d] }
  | _ => none }
def fnExactNosOfRow : OpenClaim := { program := "ytbbhldnedfgjnaa", sum := "f2429e03a2714448113e2015397e0f5c8dd01b753a8e4a11682f6da1deeba9c1", func := "loop.example/g00333/laws.FnExactNosOf", spec := "fnExactNosOf", unfollowed := true, recurses := true, apart := false }
def FnExactNosOfSaid : Prop := fnExactNosOfRow.holds Try.pinned (OpenSpec.ofChange fnExactNosOfSpec)

/-- ITS FALSE NEIGHBOUR: 'it returns false'. Refute it at one input. -/
def fnExactNosOfWrong : ChangeSpec := { name := "fnExactNosOf", fn := fun _ => fun
  | [d] => { results := [.lit (.bool false)], args := [d] }
  | _ => none }
def FnExactNosOfWrongFalsely : Prop := fnExactNosOfRow.holds Try.pinned (OpenSpec.ofChange fnExactNosOfWrong)

/-- 'laws.FnExactDepthOf': WHATEVER THE INPUT: true; the input reads as it did. -/
def fnExactDepthOfSpec : ChangeSpec := { name := "fnExactDepthOf", fn := fun _ => fun
  | [d] => { results := [.lit (.bool true)], args := [d] }
  | _ => none }
def fnExactDepthOfRow : OpenClaim := { program := "ytbbhldnedfgjnaa", sum := "f2429e03a2714448113e2015397e0f5c8dd01b753a8e4a11682f6da1deeba9c1", func := "loop.example/g00333/laws.FnExactDepthOf", spec := "fnExactDepthOf", unfollowed := true, recurses := true, apart := false }
def FnExactDepthOfSaid : Prop := fnExactDepthOfRow.holds Try.pinned (OpenSpec.ofChange fnExactDepthOfSpec)

/-- ITS FALSE NEIGHBOUR: 'it returns false'. Refute it at one input. -/
def fnExactDepthOfWrong : ChangeSpec := { name := "fnExactDepthOf", fn := fun _ => fun
  | [d] => { results := [.lit (.bool false)], args := [d] }
  | _ => none }
def FnExactDepthOfWrongFalsely : Prop := fnExactDepthOfRow.holds Try.pinned (OpenSpec.ofChange fnExactDepthOfWrong)

/- THE SECOND FORM. 'bulk': how many values and letters a reading holds, each counted each time it is reached (what is shared counts as often as it is met; a slice's spare places count too). A statement '..UptoSaid' is the law's where the arguments, and the package variables that the reading takes, are together of bulk at most 1048576: NARROWER than '..Said'. Prove '..Said' where nothing that the law and all that it calls make is longer than what came in: it says more and counts as full. Else prove '..UptoSaid'. A law counts once. -/
mutual
def uptoBulk {H : Type} : DataW H → Nat
  | .lit (.string bytes) => bytes.length + 1
  | .lit _ => 1
  | .nil => 1
  | .ptr d => uptoBulk d + 1
  | .slice elems spare => uptoBulkAll elems + uptoBulkAll spare + 1
  | .agg parts => uptoBulkAll parts + 1
  | .iface _ d => uptoBulk d + 1
  | .map entries => uptoBulkEntries entries + 1
  | .held _ => 1
def uptoBulkAll {H : Type} : List (DataW H) → Nat
  | [] => 0
  | d :: r => uptoBulk d + uptoBulkAll r
def uptoBulkEntries {H : Type} : List (Lit × DataW H) → Nat
  | [] => 0
  | x :: r => uptoBulkEntry x + uptoBulkEntries r
def uptoBulkEntry {H : Type} : Lit × DataW H → Nat
  | (.string bytes, d) => bytes.length + uptoBulk d + 1
  | (_, d) => uptoBulk d + 1
 end
def uptoSmall : (H : Type) → List (DataW H) → Bool := fun _ ds => decide (uptoBulkAll ds ≤ 1048576)
def OpenSpec.upto (s : _root_.Go.ChangeSpec) : _root_.Go.OpenSpec := { _root_.Go.OpenSpec.ofChange s with cond := some uptoSmall }

/-- 'laws.FnExactGoodFilter', WHERE WHAT IT READS IS OF BULK AT MOST 1048576: true; the input reads as it did. -/
def fnExactGoodFilterUptoRow : OpenClaim := { program := "ytbbhldnedfgjnaa", sum := "f2429e03a2714448113e2015397e0f5c8dd01b753a8e4a11682f6da1deeba9c1", func := "loop.example/g00333/laws.FnExactGoodFilter", spec := "fnExactGoodFilter", unfollowed := true, recurses := true, apart := false, narrowed := true }
def FnExactGoodFilterUptoSaid : Prop := fnExactGoodFilterUptoRow.holds Try.pinned (OpenSpec.upto fnExactGoodFilterSpec)

/-- 'laws.FnExactFilterFits', WHERE WHAT IT READS IS OF BULK AT MOST 1048576: true; the input reads as it did. -/
def fnExactFilterFitsUptoRow : OpenClaim := { program := "ytbbhldnedfgjnaa", sum := "f2429e03a2714448113e2015397e0f5c8dd01b753a8e4a11682f6da1deeba9c1", func := "loop.example/g00333/laws.FnExactFilterFits", spec := "fnExactFilterFits", unfollowed := true, recurses := true, apart := false, narrowed := true }
def FnExactFilterFitsUptoSaid : Prop := fnExactFilterFitsUptoRow.holds Try.pinned (OpenSpec.upto fnExactFilterFitsSpec)

/-- 'laws.FnExactNotFilter', WHERE WHAT IT READS IS OF BULK AT MOST 1048576: true; the input reads as it did. -/
def fnExactNotFilterUptoRow : OpenClaim := { program := "ytbbhldnedfgjnaa", sum := "f2429e03a2714448113e2015397e0f5c8dd01b753a8e4a11682f6da1deeba9c1", func := "loop.example/g00333/laws.FnExactNotFilter", spec := "fnExactNotFilter", unfollowed := true, recurses := true, apart := false, narrowed := true }
def FnExactNotFilterUptoSaid : Prop := fnExactNotFilterUptoRow.holds Try.pinned (OpenSpec.upto fnExactNotFilterSpec)

/-- 'laws.FnExactBothFilters', WHERE WHAT IT READS IS OF BULK AT MOST 1048576: true; the input reads as it did. -/
def fnExactBothFiltersUptoRow : OpenClaim := { program := "ytbbhldnedfgjnaa", sum := "f2429e03a2714448113e2015397e0f5c8dd01b753a8e4a11682f6da1deeba9c1", func := "loop.example/g00333/laws.FnExactBothFilters", spec := "fnExactBothFilters", unfollowed := true, recurses := true, apart := false, narrowed := true }
def FnExactBothFiltersUptoSaid : Prop := fnExactBothFiltersUptoRow.holds Try.pinned (OpenSpec.upto fnExactBothFiltersSpec)

/-- 'laws.FnExactNosOf', WHERE WHAT IT READS IS OF BULK AT MOST 1048576: true; the input reads as it did. -/
def fnExactNosOfUptoRow : OpenClaim := { program := "ytbbhldnedfgjnaa", sum := "f2429e03a2714448113e2015397e0f5c8dd01b753a8e4a11682f6da1deeba9c1", func := "loop.example/g00333/laws.FnExactNosOf", spec := "fnExactNosOf", unfollowed := true, recurses := true, apart := false, narrowed := true }
def FnExactNosOfUptoSaid : Prop := fnExactNosOfUptoRow.holds Try.pinned (OpenSpec.upto fnExactNosOfSpec)

/-- 'laws.FnExactDepthOf', WHERE WHAT IT READS IS OF BULK AT MOST 1048576: true; the input reads as it did. -/
def fnExactDepthOfUptoRow : OpenClaim := { program := "ytbbhldnedfgjnaa", sum := "f2429e03a2714448113e2015397e0f5c8dd01b753a8e4a11682f6da1deeba9c1", func := "loop.example/g00333/laws.FnExactDepthOf", spec := "fnExactDepthOf", unfollowed := true, recurses := true, apart := false, narrowed := true }
def FnExactDepthOfUptoSaid : Prop := fnExactDepthOfUptoRow.holds Try.pinned (OpenSpec.upto fnExactDepthOfSpec)

end Rows
end Go.Proofs.Ytbbhldnedfgjnaa
