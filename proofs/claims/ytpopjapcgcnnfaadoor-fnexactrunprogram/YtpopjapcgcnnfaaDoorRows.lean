/-
  NARROWER THAN 'FOR EVERY INPUT', by the rows' own cells (each row's printed sentence says how): FnExactRunProgram: laid · FnExactMatches: laid.
  DERIVED. THE GIVEN ROWS OF THIS SEAT. 2 by the template 'for every input the law returns true; each argument reads behind the call as it read before'; 0 by the template 'total and deterministic' (their statements: YtpopjapcgcnnfaaDoorTotals.lean).
  GIVEN WITH THE SEED: the statements are not yours to turn. If you find one false, say at which input.
  Laid BY PROGRAM, IN A SANDBOX (cutbox-rows.mjs): the forced cells as the released guide's own fill.sh prints them over the translation 17b6558cd7f0fdbd… (all of the seat's roots in one cut). By AI agents, Wed Nov 11 2026. No macro, syntax, notation, axiom, sorry.
-/
import Derived.Test.YtpopjapcgcnnfaaDoorChecked
import GoSem.Claim
import GoSem.ClaimJoined
import GoSem.ClaimMapViews
import Derived.JoinedTies
import Derived.KernelRfl
namespace Go.Proofs.YtpopjapcgcnnfaaDoor
/- THE CELL 'sum', in the pinned program and in every row, IS THE sha256 OF THE DUMP (.gsa) THAT YtpopjapcgcnnfaaDoorProg.lean LOADS. Nothing in Lean hashes anything: it is a label: what it is worth is what the hold of that sum in a sandbox is worth. -/
noncomputable def Tryd.pinned : Pinned := { name := "ytpopjapcgcnnfaadoor", sum := "17b6558cd7f0fdbdcf634c63a6fecff192b30b670020a8710866f95019f0ed19", checked := Tryd.checked }
namespace Rows
def none {H : Type} : Left H := { results := [], args := [] }

/- WHAT THE LISTED PACKAGE-LEVEL VARIABLES READ AS WHEN THE CALL BEGINS. Each datum BY PROGRAM (the guide's laid-datum.mjs) off the statement by which the dump's own 'gosem.cut.vars' lays the variable. In a bare row this is a premise. The card (YtpopjapcgcnnfaaDoorCards.lean) ties it to the program's text. -/
def laid_loop_example_g00333_impl_kindRows {H : Type} : DataW H := .agg [.agg [.lit (.int .i64 0), .lit (.bool true), .lit (.bool false)], .agg [.lit (.int .i64 2), .lit (.bool false), .lit (.bool true)]]

/-- 'laws.FnExactRunProgram': WHATEVER THE INPUT: true; the input reads as it did. -/
def fnExactRunProgramSpec : ChangeSpec := { name := "fnExactRunProgram", vars := ["loop.example/g00333/impl.kindRows"], fn := fun _ => fun
  | [d1, d2, g1] => { results := [.lit (.bool true)], args := [d1, d2], vars := [g1] }
  | _ => none }
def fnExactRunProgramRow : OpenClaim := { program := "ytpopjapcgcnnfaadoor", sum := "17b6558cd7f0fdbdcf634c63a6fecff192b30b670020a8710866f95019f0ed19", func := "loop.example/g00333/laws.FnExactRunProgram", spec := "fnExactRunProgram", unfollowed := true, recurses := true, named := ["loop.example/g00333/impl.kindRows"], apart := false, laid := [("loop.example/g00333/impl.kindRows", laid_loop_example_g00333_impl_kindRows)] }
def FnExactRunProgramSaid : Prop := fnExactRunProgramRow.holds Tryd.pinned (OpenSpec.ofChange fnExactRunProgramSpec)

/-- ITS FALSE NEIGHBOUR: 'it returns false'. Refute it at one input. -/
def fnExactRunProgramWrong : ChangeSpec := { name := "fnExactRunProgram", vars := ["loop.example/g00333/impl.kindRows"], fn := fun _ => fun
  | [d1, d2, g1] => { results := [.lit (.bool false)], args := [d1, d2], vars := [g1] }
  | _ => none }
def FnExactRunProgramWrongFalsely : Prop := fnExactRunProgramRow.holds Tryd.pinned (OpenSpec.ofChange fnExactRunProgramWrong)

/-- 'laws.FnExactMatches': WHATEVER THE INPUT: true; the input reads as it did. -/
def fnExactMatchesSpec : ChangeSpec := { name := "fnExactMatches", vars := ["loop.example/g00333/impl.kindRows"], fn := fun _ => fun
  | [d1, d2, g1] => { results := [.lit (.bool true)], args := [d1, d2], vars := [g1] }
  | _ => none }
def fnExactMatchesRow : OpenClaim := { program := "ytpopjapcgcnnfaadoor", sum := "17b6558cd7f0fdbdcf634c63a6fecff192b30b670020a8710866f95019f0ed19", func := "loop.example/g00333/laws.FnExactMatches", spec := "fnExactMatches", unfollowed := true, recurses := true, named := ["loop.example/g00333/impl.kindRows"], apart := false, laid := [("loop.example/g00333/impl.kindRows", laid_loop_example_g00333_impl_kindRows)] }
def FnExactMatchesSaid : Prop := fnExactMatchesRow.holds Tryd.pinned (OpenSpec.ofChange fnExactMatchesSpec)

/-- ITS FALSE NEIGHBOUR: 'it returns false'. Refute it at one input. -/
def fnExactMatchesWrong : ChangeSpec := { name := "fnExactMatches", vars := ["loop.example/g00333/impl.kindRows"], fn := fun _ => fun
  | [d1, d2, g1] => { results := [.lit (.bool false)], args := [d1, d2], vars := [g1] }
  | _ => none }
def FnExactMatchesWrongFalsely : Prop := fnExactMatchesRow.holds Tryd.pinned (OpenSpec.ofChange fnExactMatchesWrong)

/- THE SECOND FORM. 'bulk': how many values and letters a reading holds, each counted each time it is reached (what is shared counts as often as it is met; a slice's spare places count too). A statement '..UptoSaid' is the law's where the arguments, and the package variables that the reading takes, are together of bulk at most 1048576: NARROWER than '..Said'. Prove '..Said' where nothing that the law and all that it calls make is longer than what came in: it says more and counts as full. Else prove '..UptoSaid'. A law counts once. -/
mutual
def uptoBulk {H : Type} : DataW H → Nat
  | .lit (.string bytes) => bytes.length + 1
  | .lit _ => 1
  | .nil => 1
  | .ptr d => uptoBulk d + 1
  | .slice elems spare => uptoBulkAll elems + uptoBulkAll spare + 1
  | .agg parts => uptoBulkAll parts + 1
  | .iface _ d => uptoBulk d + 1
  | .map entries => uptoBulkEntries entries + 1
  | .held _ => 1
def uptoBulkAll {H : Type} : List (DataW H) → Nat
  | [] => 0
  | d :: r => uptoBulk d + uptoBulkAll r
def uptoBulkEntries {H : Type} : List (Lit × DataW H) → Nat
  | [] => 0
  | x :: r => uptoBulkEntry x + uptoBulkEntries r
def uptoBulkEntry {H : Type} : Lit × DataW H → Nat
  | (.string bytes, d) => bytes.length + uptoBulk d + 1
  | (_, d) => uptoBulk d + 1
 end
def uptoSmall : (H : Type) → List (DataW H) → Bool := fun _ ds => decide (uptoBulkAll ds ≤ 1048576)
def OpenSpec.upto (s : _root_.Go.ChangeSpec) : _root_.Go.OpenSpec := { _root_.Go.OpenSpec.ofChange s with cond := some uptoSmall }

/-- 'laws.FnExactRunProgram', WHERE WHAT IT READS IS OF BULK AT MOST 1048576: true; the input reads as it did. -/
def fnExactRunProgramUptoRow : OpenClaim := { program := "ytpopjapcgcnnfaadoor", sum := "17b6558cd7f0fdbdcf634c63a6fecff192b30b670020a8710866f95019f0ed19", func := "loop.example/g00333/laws.FnExactRunProgram", spec := "fnExactRunProgram", unfollowed := true, recurses := true, named := ["loop.example/g00333/impl.kindRows"], apart := false, laid := [("loop.example/g00333/impl.kindRows", laid_loop_example_g00333_impl_kindRows)], narrowed := true }
def FnExactRunProgramUptoSaid : Prop := fnExactRunProgramUptoRow.holds Tryd.pinned (OpenSpec.upto fnExactRunProgramSpec)

/-- 'laws.FnExactMatches', WHERE WHAT IT READS IS OF BULK AT MOST 1048576: true; the input reads as it did. -/
def fnExactMatchesUptoRow : OpenClaim := { program := "ytpopjapcgcnnfaadoor", sum := "17b6558cd7f0fdbdcf634c63a6fecff192b30b670020a8710866f95019f0ed19", func := "loop.example/g00333/laws.FnExactMatches", spec := "fnExactMatches", unfollowed := true, recurses := true, named := ["loop.example/g00333/impl.kindRows"], apart := false, laid := [("loop.example/g00333/impl.kindRows", laid_loop_example_g00333_impl_kindRows)], narrowed := true }
def FnExactMatchesUptoSaid : Prop := fnExactMatchesUptoRow.holds Tryd.pinned (OpenSpec.upto fnExactMatchesSpec)

end Rows
end Go.Proofs.YtpopjapcgcnnfaaDoor
