/-
  NARROWER THAN 'FOR EVERY INPUT', by the rows' own cells (each row's printed sentence says how): FnCompiled: laid · FnPeephole: laid.
  DERIVED. THE GIVEN ROWS OF THIS SEAT. 2 by the template 'for every input the law returns true; each argument reads behind the call as it read before'; 0 by the template 'total and deterministic' (their statements: YtmjpmmkjfimopaaDoorTotals.lean).
  GIVEN WITH THE SEED: the statements are not yours to turn. If you find one false, say at which input.
  Laid BY PROGRAM, IN A SANDBOX (cutbox-rows.mjs): the forced cells as the released guide's own fill.sh prints them over the translation f2a8915f2d70a12e… (all of the seat's roots in one cut). By AI agents, Wed Nov 11 2026. No macro, syntax, notation, axiom, sorry.
-/
import Derived.Test.YtmjpmmkjfimopaaDoorChecked
import GoSem.Claim
import GoSem.ClaimJoined
import GoSem.ClaimMapViews
import Derived.JoinedTies
import Derived.KernelRfl
namespace Go.Proofs.YtmjpmmkjfimopaaDoor
/- THE CELL 'sum', in the pinned program and in every row, IS THE sha256 OF THE DUMP (.gsa) THAT YtmjpmmkjfimopaaDoorProg.lean LOADS. Nothing in Lean hashes anything: it is a label: what it is worth is what the hold of that sum in a sandbox is worth. -/
noncomputable def Tryd.pinned : Pinned := { name := "ytmjpmmkjfimopaadoor", sum := "f2a8915f2d70a12ed3f380aff00ba76979f80d129c25caed767c49e4a9b2ac52", checked := Tryd.checked }
namespace Rows
def none {H : Type} : Left H := { results := [], args := [] }

/- WHAT THE LISTED PACKAGE-LEVEL VARIABLES READ AS WHEN THE CALL BEGINS. Each datum BY PROGRAM (the guide's laid-datum.mjs) off the statement by which the dump's own 'gosem.cut.vars' lays the variable. In a bare row this is a premise. The card (YtmjpmmkjfimopaaDoorCards.lean) ties it to the program's text. -/
def laid_loop_example_g00333_impl_kindRows {H : Type} : DataW H := .agg [.agg [.lit (.int .i64 0), .lit (.bool true), .lit (.bool false)], .agg [.lit (.int .i64 2), .lit (.bool false), .lit (.bool true)]]

/-- 'laws.FnCompiled': WHATEVER THE INPUT: true; the input reads as it did. -/
def fnCompiledSpec : ChangeSpec := { name := "fnCompiled", vars := ["loop.example/g00333/impl.kindRows"], fn := fun _ => fun
  | [d1, d2, g1] => { results := [.lit (.bool true)], args := [d1, d2], vars := [g1] }
  | _ => none }
def fnCompiledRow : OpenClaim := { program := "ytmjpmmkjfimopaadoor", sum := "f2a8915f2d70a12ed3f380aff00ba76979f80d129c25caed767c49e4a9b2ac52", func := "loop.example/g00333/laws.FnCompiled", spec := "fnCompiled", unfollowed := true, recurses := true, named := ["loop.example/g00333/impl.kindRows"], apart := false, laid := [("loop.example/g00333/impl.kindRows", laid_loop_example_g00333_impl_kindRows)] }
def FnCompiledSaid : Prop := fnCompiledRow.holds Tryd.pinned (OpenSpec.ofChange fnCompiledSpec)

/-- ITS FALSE NEIGHBOUR: 'it returns false'. Refute it at one input. -/
def fnCompiledWrong : ChangeSpec := { name := "fnCompiled", vars := ["loop.example/g00333/impl.kindRows"], fn := fun _ => fun
  | [d1, d2, g1] => { results := [.lit (.bool false)], args := [d1, d2], vars := [g1] }
  | _ => none }
def FnCompiledWrongFalsely : Prop := fnCompiledRow.holds Tryd.pinned (OpenSpec.ofChange fnCompiledWrong)

/-- 'laws.FnPeephole': WHATEVER THE INPUT: true; the input reads as it did. -/
def fnPeepholeSpec : ChangeSpec := { name := "fnPeephole", vars := ["loop.example/g00333/impl.kindRows"], fn := fun _ => fun
  | [d, g1] => { results := [.lit (.bool true)], args := [d], vars := [g1] }
  | _ => none }
def fnPeepholeRow : OpenClaim := { program := "ytmjpmmkjfimopaadoor", sum := "f2a8915f2d70a12ed3f380aff00ba76979f80d129c25caed767c49e4a9b2ac52", func := "loop.example/g00333/laws.FnPeephole", spec := "fnPeephole", unfollowed := true, recurses := true, named := ["loop.example/g00333/impl.kindRows"], apart := false, laid := [("loop.example/g00333/impl.kindRows", laid_loop_example_g00333_impl_kindRows)] }
def FnPeepholeSaid : Prop := fnPeepholeRow.holds Tryd.pinned (OpenSpec.ofChange fnPeepholeSpec)

/-- ITS FALSE NEIGHBOUR: 'it returns false'. Refute it at one input. -/
def fnPeepholeWrong : ChangeSpec := { name := "fnPeephole", vars := ["loop.example/g00333/impl.kindRows"], fn := fun _ => fun
  | [d, g1] => { results := [.lit (.bool false)], args := [d], vars := [g1] }
  | _ => none }
def FnPeepholeWrongFalsely : Prop := fnPeepholeRow.holds Tryd.pinned (OpenSpec.ofChange fnPeepholeWrong)

/- THE SECOND FORM. 'bulk': how many values and letters a reading holds, each counted each time it is reached (what is shared counts as often as it is met; a slice's spare places count too). A statement '..UptoSaid' is the law's where the arguments, and the package variables that the reading takes, are together of bulk at most 1048576: NARROWER than '..Said'. Prove '..Said' where nothing that the law and all that it calls make is longer than what came in: it says more and counts as full. Else prove '..UptoSaid'. A law counts once. -/
mutual
def uptoBulk {H : Type} : DataW H → Nat
  | .lit (.string bytes) => bytes.length + 1
  | .lit _ => 1
  | .nil => 1
  | .ptr d => uptoBulk d + 1
  | .slice elems spare => uptoBulkAll elems + uptoBulkAll spare + 1
  | .agg parts => uptoBulkAll parts + 1
  | .iface _ d => uptoBulk d + 1
  | .map entries => uptoBulkEntries entries + 1
  | .held _ => 1
def uptoBulkAll {H : Type} : List (DataW H) → Nat
  | [] => 0
  | d :: r => uptoBulk d + uptoBulkAll r
def uptoBulkEntries {H : Type} : List (Lit × DataW H) → Nat
  | [] => 0
  | x :: r => uptoBulkEntry x + uptoBulkEntries r
def uptoBulkEntry {H : Type} : Lit × DataW H → Nat
  | (.string bytes, d) => bytes.length + uptoBulk d + 1
  | (_, d) => uptoBulk d + 1
 end
def uptoSmall : (H : Type) → List (DataW H) → Bool := fun _ ds => decide (uptoBulkAll ds ≤ 1048576)
def OpenSpec.upto (s : _root_.Go.ChangeSpec) : _root_.Go.OpenSpec := { _root_.Go.OpenSpec.ofChange s with cond := some uptoSmall }

/-- 'laws.FnCompiled', WHERE WHAT IT READS IS OF BULK AT MOST 1048576: true; the input reads as it did. -/
def fnCompiledUptoRow : OpenClaim := { program := "ytmjpmmkjfimopaadoor", sum := "f2a8915f2d70a12ed3f380aff00ba76979f80d129c25caed767c49e4a9b2ac52", func := "loop.example/g00333/laws.FnCompiled", spec := "fnCompiled", unfollowed := true, recurses := true, named := ["loop.example/g00333/impl.kindRows"], apart := false, laid := [("loop.example/g00333/impl.kindRows", laid_loop_example_g00333_impl_kindRows)], narrowed := true }
def FnCompiledUptoSaid : Prop := fnCompiledUptoRow.holds Tryd.pinned (OpenSpec.upto fnCompiledSpec)

/-- 'laws.FnPeephole', WHERE WHAT IT READS IS OF BULK AT MOST 1048576: true; the input reads as it did. -/
def fnPeepholeUptoRow : OpenClaim := { program := "ytmjpmmkjfimopaadoor", sum := "f2a8915f2d70a12ed3f380aff00ba76979f80d129c25caed767c49e4a9b2ac52", func := "loop.example/g00333/laws.FnPeephole", spec := "fnPeephole", unfollowed := true, recurses := true, named := ["loop.example/g00333/impl.kindRows"], apart := false, laid := [("loop.example/g00333/impl.kindRows", laid_loop_example_g00333_impl_kindRows)], narrowed := true }
def FnPeepholeUptoSaid : Prop := fnPeepholeUptoRow.holds Tryd.pinned (OpenSpec.upto fnPeepholeSpec)

end Rows
end Go.Proofs.YtmjpmmkjfimopaaDoor
