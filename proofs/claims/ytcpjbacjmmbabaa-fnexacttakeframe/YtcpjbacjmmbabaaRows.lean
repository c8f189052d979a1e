/-
  No cell of these rows narrows 'for every input' (looked for: loops, veiled, ifaces, maps, wideKeys, modest, calm, conditions, laid).
  DERIVED. THE GIVEN ROWS OF THIS SEAT. 10 by the template 'for every input the law returns true; each argument reads behind the call as it read before'; 0 by the template 'total and deterministic' (their statements: YtcpjbacjmmbabaaTotals.lean).
  GIVEN WITH THE SEED: the statements are not yours to turn. If you find one false, say at which input.
  Laid BY PROGRAM, IN A SANDBOX (cutbox-rows.mjs): the forced cells as the released guide's own fill.sh prints them over the translation 5d1eb3ff1baa942c… (all of the seat's roots in one cut). By AI agents, Wed Nov 11 2026. No macro, syntax, notation, axiom, sorry.
-/
import Derived.Test.YtcpjbacjmmbabaaChecked
import GoSem.Claim
import GoSem.ClaimJoined
import GoSem.ClaimMapViews
import Derived.JoinedTies
import Derived.KernelRfl
namespace Go.Proofs.Ytcpjbacjmmbabaa
/- THE CELL 'sum', in the pinned program and in every row, IS THE sha256 OF THE DUMP (.gsa) THAT YtcpjbacjmmbabaaProg.lean LOADS. Nothing in Lean hashes anything: it is a label: what it is worth is what the hold of that sum in a sandbox is worth. -/
noncomputable def Try.pinned : Pinned := { name := "ytcpjbacjmmbabaa", sum := "5d1eb3ff1baa942c97b885d652a1bdb44e05ad5cb66fa76008c2bbf137a2dc7e", checked := Try.checked }
namespace Rows
def none {H : Type} : Left H := { results := [], args := [] }

/-- 'laws.FnExactFrameSum': WHATEVER THE INPUT: true; the input reads as it did. -/
def fnExactFrameSumSpec : ChangeSpec := { name := "fnExactFrameSum", fn := fun _ => fun
  | [d] => { results := [.lit (.bool true)], args := [d] }
  | _ => none }
def fnExactFrameSumRow : OpenClaim := { program := "ytcpjbacjmmbabaa", sum := "5d1eb3ff1baa942c97b885d652a1bdb44e05ad5cb66fa76008c2bbf137a2dc7e", func := "loop.example/g00333/laws.FnExactFrameSum", spec := "fnExactFrameSum", apart := false }
def FnExactFrameSumSaid : Prop := fnExactFrameSumRow.holds Try.pinned (OpenSpec.ofChange fnExactFrameSumSpec)

/-- ITS FALSE NEIGHBOUR: 'it returns false'. Refute it at one input. -/
def fnExactFrameSumWrong : ChangeSpec := { name := "fnExactFrameSum", fn := fun _ => fun
  | [d] => { results := [.lit (.bool false)], args := [d] }
  | _ => none }
def FnExactFrameSumWrongFalsely : Prop := fnExactFrameSumRow.holds Try.pinned (OpenSpec.ofChange fnExactFrameSumWrong)

/-- 'laws.FnExactFrameOf': WHATEVER THE INPUT: true; the input reads as it did. -/
def fnExactFrameOfSpec : ChangeSpec := { name := "fnExactFrameOf", fn := fun _ => fun
  | [d] => { results := [.lit (.bool true)], args := [d] }
  | _ => none }
def fnExactFrameOfRow : OpenClaim := { program := "ytcpjbacjmmbabaa", sum := "5d1eb3ff1baa942c97b885d652a1bdb44e05ad5cb66fa76008c2bbf137a2dc7e", func := "loop.example/g00333/laws.FnExactFrameOf", spec := "fnExactFrameOf", apart := false }
def FnExactFrameOfSaid : Prop := fnExactFrameOfRow.holds Try.pinned (OpenSpec.ofChange fnExactFrameOfSpec)

/-- ITS FALSE NEIGHBOUR: 'it returns false'. Refute it at one input. -/
def fnExactFrameOfWrong : ChangeSpec := { name := "fnExactFrameOf", fn := fun _ => fun
  | [d] => { results := [.lit (.bool false)], args := [d] }
  | _ => none }
def FnExactFrameOfWrongFalsely : Prop := fnExactFrameOfRow.holds Try.pinned (OpenSpec.ofChange fnExactFrameOfWrong)

/-- 'laws.FnExactUnframeAll': WHATEVER THE INPUT: true; the input reads as it did. -/
def fnExactUnframeAllSpec : ChangeSpec := { name := "fnExactUnframeAll", fn := fun _ => fun
  | [d] => { results := [.lit (.bool true)], args := [d] }
  | _ => none }
def fnExactUnframeAllRow : OpenClaim := { program := "ytcpjbacjmmbabaa", sum := "5d1eb3ff1baa942c97b885d652a1bdb44e05ad5cb66fa76008c2bbf137a2dc7e", func := "loop.example/g00333/laws.FnExactUnframeAll", spec := "fnExactUnframeAll", apart := false }
def FnExactUnframeAllSaid : Prop := fnExactUnframeAllRow.holds Try.pinned (OpenSpec.ofChange fnExactUnframeAllSpec)

/-- ITS FALSE NEIGHBOUR: 'it returns false'. Refute it at one input. -/
def fnExactUnframeAllWrong : ChangeSpec := { name := "fnExactUnframeAll", fn := fun _ => fun
  | [d] => { results := [.lit (.bool false)], args := [d] }
  | _ => none }
def FnExactUnframeAllWrongFalsely : Prop := fnExactUnframeAllRow.holds Try.pinned (OpenSpec.ofChange fnExactUnframeAllWrong)

/-- 'laws.FnExactNewReader': WHATEVER THE INPUT: true; the input reads as it did. -/
def fnExactNewReaderSpec : ChangeSpec := { name := "fnExactNewReader", fn := fun _ => fun
  | [] => { results := [.lit (.bool true)], args := [] }
  | _ => none }
def fnExactNewReaderRow : OpenClaim := { program := "ytcpjbacjmmbabaa", sum := "5d1eb3ff1baa942c97b885d652a1bdb44e05ad5cb66fa76008c2bbf137a2dc7e", func := "loop.example/g00333/laws.FnExactNewReader", spec := "fnExactNewReader", apart := false }
def FnExactNewReaderSaid : Prop := fnExactNewReaderRow.holds Try.pinned (OpenSpec.ofChange fnExactNewReaderSpec)

/-- ITS FALSE NEIGHBOUR: 'it returns false'. Refute it at one input. -/
def fnExactNewReaderWrong : ChangeSpec := { name := "fnExactNewReader", fn := fun _ => fun
  | [] => { results := [.lit (.bool false)], args := [] }
  | _ => none }
def FnExactNewReaderWrongFalsely : Prop := fnExactNewReaderRow.holds Try.pinned (OpenSpec.ofChange fnExactNewReaderWrong)

/-- 'laws.FnExactGoodReader': WHATEVER THE INPUT: true; the input reads as it did. -/
def fnExactGoodReaderSpec : ChangeSpec := { name := "fnExactGoodReader", fn := fun _ => fun
  | [d] => { results := [.lit (.bool true)], args := [d] }
  | _ => none }
def fnExactGoodReaderRow : OpenClaim := { program := "ytcpjbacjmmbabaa", sum := "5d1eb3ff1baa942c97b885d652a1bdb44e05ad5cb66fa76008c2bbf137a2dc7e", func := "loop.example/g00333/laws.FnExactGoodReader", spec := "fnExactGoodReader", apart := false }
def FnExactGoodReaderSaid : Prop := fnExactGoodReaderRow.holds Try.pinned (OpenSpec.ofChange fnExactGoodReaderSpec)

/-- ITS FALSE NEIGHBOUR: 'it returns false'. Refute it at one input. -/
def fnExactGoodReaderWrong : ChangeSpec := { name := "fnExactGoodReader", fn := fun _ => fun
  | [d] => { results := [.lit (.bool false)], args := [d] }
  | _ => none }
def FnExactGoodReaderWrongFalsely : Prop := fnExactGoodReaderRow.holds Try.pinned (OpenSpec.ofChange fnExactGoodReaderWrong)

/-- 'laws.FnExactFeedReader': WHATEVER THE INPUT: true; the input reads as it did. -/
def fnExactFeedReaderSpec : ChangeSpec := { name := "fnExactFeedReader", fn := fun _ => fun
  | [d1, d2] => { results := [.lit (.bool true)], args := [d1, d2] }
  | _ => none }
def fnExactFeedReaderRow : OpenClaim := { program := "ytcpjbacjmmbabaa", sum := "5d1eb3ff1baa942c97b885d652a1bdb44e05ad5cb66fa76008c2bbf137a2dc7e", func := "loop.example/g00333/laws.FnExactFeedReader", spec := "fnExactFeedReader", apart := false }
def FnExactFeedReaderSaid : Prop := fnExactFeedReaderRow.holds Try.pinned (OpenSpec.ofChange fnExactFeedReaderSpec)

/-- ITS FALSE NEIGHBOUR: 'it returns false'. Refute it at one input. -/
def fnExactFeedReaderWrong : ChangeSpec := { name := "fnExactFeedReader", fn := fun _ => fun
  | [d1, d2] => { results := [.lit (.bool false)], args := [d1, d2] }
  | _ => none }
def FnExactFeedReaderWrongFalsely : Prop := fnExactFeedReaderRow.holds Try.pinned (OpenSpec.ofChange fnExactFeedReaderWrong)

/-- 'laws.FnExactTakeFrame': WHATEVER THE INPUT: true; the input reads as it did. -/
def fnExactTakeFrameSpec : ChangeSpec := { name := "fnExactTakeFrame", fn := fun _ => fun
  | [d] => { results := [.lit (.bool true)], args := [d] }
  | _ => none }
def fnExactTakeFrameRow : OpenClaim := { program := "ytcpjbacjmmbabaa", sum := "5d1eb3ff1baa942c97b885d652a1bdb44e05ad5cb66fa76008c2bbf137a2dc7e", func := "loop.example/g00333/laws.FnExactTakeFrame", spec := "fnExactTakeFrame", apart := false }
def FnExactTakeFrameSaid : Prop := fnExactTakeFrameRow.holds Try.pinned (OpenSpec.ofChange fnExactTakeFrameSpec)

/-- ITS FALSE NEIGHBOUR: 'it returns false'. Refute it at one input. -/
def fnExactTakeFrameWrong : ChangeSpec := { name := "fnExactTakeFrame", fn := fun _ => fun
  | [d] => { results := [.lit (.bool false)], args := [d] }
  | _ => none }
def FnExactTakeFrameWrongFalsely : Prop := fnExactTakeFrameRow.holds Try.pinned (OpenSpec.ofChange fnExactTakeFrameWrong)

/-- 'laws.FnExactFeedAll': WHATEVER THE INPUT: true; the input reads as it did. -/
def fnExactFeedAllSpec : ChangeSpec := { name := "fnExactFeedAll", fn := fun _ => fun
  | [d] => { results := [.lit (.bool true)], args := [d] }
  | _ => none }
def fnExactFeedAllRow : OpenClaim := { program := "ytcpjbacjmmbabaa", sum := "5d1eb3ff1baa942c97b885d652a1bdb44e05ad5cb66fa76008c2bbf137a2dc7e", func := "loop.example/g00333/laws.FnExactFeedAll", spec := "fnExactFeedAll", apart := false }
def FnExactFeedAllSaid : Prop := fnExactFeedAllRow.holds Try.pinned (OpenSpec.ofChange fnExactFeedAllSpec)

/-- ITS FALSE NEIGHBOUR: 'it returns false'. Refute it at one input. -/
def fnExactFeedAllWrong : ChangeSpec := { name := "fnExactFeedAll", fn := fun _ => fun
  | [d] => { results := [.lit (.bool false)], args := [d] }
  | _ => none }
def FnExactFeedAllWrongFalsely : Prop := fnExactFeedAllRow.holds Try.pinned (OpenSpec.ofChange fnExactFeedAllWrong)

/-- 'laws.FnFrames': WHATEVER THE INPUT: true; the input reads as it did. -/
def fnFramesSpec : ChangeSpec := { name := "fnFrames", fn := fun _ => fun
  | [d1, d2] => { results := [.lit (.bool true)], args := [d1, d2] }
  | _ => none }
def fnFramesRow : OpenClaim := { program := "ytcpjbacjmmbabaa", sum := "5d1eb3ff1baa942c97b885d652a1bdb44e05ad5cb66fa76008c2bbf137a2dc7e", func := "loop.example/g00333/laws.FnFrames", spec := "fnFrames", apart := false }
def FnFramesSaid : Prop := fnFramesRow.holds Try.pinned (OpenSpec.ofChange fnFramesSpec)

/-- ITS FALSE NEIGHBOUR: 'it returns false'. Refute it at one input. -/
def fnFramesWrong : ChangeSpec := { name := "fnFrames", fn := fun _ => fun
  | [d1, d2] => { results := [.lit (.bool false)], args := [d1, d2] }
  | _ => none }
def FnFramesWrongFalsely : Prop := fnFramesRow.holds Try.pinned (OpenSpec.ofChange fnFramesWrong)

/-- 'laws.FnStream': WHATEVER THE INPUT: true; the input reads as it did. -/
def fnStreamSpec : ChangeSpec := { name := "fnStream", fn := fun _ => fun
  | [d1, d2] => { results := [.lit (.bool true)], args := [d1, d2] }
  | _ => none }
def fnStreamRow : OpenClaim := { program := "ytcpjbacjmmbabaa", sum := "5d1eb3ff1baa942c97b885d652a1bdb44e05ad5cb66fa76008c2bbf137a2dc7e", func := "loop.example/g00333/laws.FnStream", spec := "fnStream", apart := false }
def FnStreamSaid : Prop := fnStreamRow.holds Try.pinned (OpenSpec.ofChange fnStreamSpec)

/-- ITS FALSE NEIGHBOUR: 'it returns false'. Refute it at one input. -/
def fnStreamWrong : ChangeSpec := { name := "fnStream", fn := fun _ => fun
  | [d1, d2] => { results := [.lit (.bool false)], args := [d1, d2] }
  | _ => none }
def FnStreamWrongFalsely : Prop := fnStreamRow.holds Try.pinned (OpenSpec.ofChange fnStreamWrong)

/- THE SECOND FORM. 'bulk': how many values and letters a reading holds, each counted each time it is reached (what is shared counts as often as it is met; a slice's spare places count too). A statement '..UptoSaid' is the law's where the arguments, and the package variables that the reading takes, are together of bulk at most 1048576: NARROWER than '..Said'. Prove '..Said' where nothing that the law and all that it calls make is longer than what came in: it says more and counts as full. Else prove '..UptoSaid'. A law counts once. -/
mutual
def uptoBulk {H : Type} : DataW H → Nat
  | .lit (.string bytes) => bytes.length + 1
  | .lit _ => 1
  | .nil => 1
  | .ptr d => uptoBulk d + 1
  | .slice elems spare => uptoBulkAll elems + uptoBulkAll spare + 1
  | .agg parts => uptoBulkAll parts + 1
  | .iface _ d => uptoBulk d + 1
  | .map entries => uptoBulkEntries entries + 1
  | .held _ => 1
def uptoBulkAll {H : Type} : List (DataW H) → Nat
  | [] => 0
  | d :: r => uptoBulk d + uptoBulkAll r
def uptoBulkEntries {H : Type} : List (Lit × DataW H) → Nat
  | [] => 0
  | x :: r => uptoBulkEntry x + uptoBulkEntries r
def uptoBulkEntry {H : Type} : Lit × DataW H → Nat
  | (.string bytes, d) => bytes.length + uptoBulk d + 1
  | (_, d) => uptoBulk d + 1
 end
def uptoSmall : (H : Type) → List (DataW H) → Bool := fun _ ds => decide (uptoBulkAll ds ≤ 1048576)
def OpenSpec.upto (s : _root_.Go.ChangeSpec) : _root_.Go.OpenSpec := { _root_.Go.OpenSpec.ofChange s with cond := some uptoSmall }

/-- 'laws.FnExactFrameSum', WHERE WHAT IT READS IS OF BULK AT MOST 1048576: true; the input reads as it did. -/
def fnExactFrameSumUptoRow : OpenClaim := { program := "ytcpjbacjmmbabaa", sum := "5d1eb3ff1baa942c97b885d652a1bdb44e05ad5cb66fa76008c2bbf137a2dc7e", func := "loop.example/g00333/laws.FnExactFrameSum", spec := "fnExactFrameSum", apart := false, narrowed := true }
def FnExactFrameSumUptoSaid : Prop := fnExactFrameSumUptoRow.holds Try.pinned (OpenSpec.upto fnExactFrameSumSpec)

/-- 'laws.FnExactFrameOf', WHERE WHAT IT READS IS OF BULK AT MOST 1048576: true; the input reads as it did. -/
def fnExactFrameOfUptoRow : OpenClaim := { program := "ytcpjbacjmmbabaa", sum := "5d1eb3ff1baa942c97b885d652a1bdb44e05ad5cb66fa76008c2bbf137a2dc7e", func := "loop.example/g00333/laws.FnExactFrameOf", spec := "fnExactFrameOf", apart := false, narrowed := true }
def FnExactFrameOfUptoSaid : Prop := fnExactFrameOfUptoRow.holds Try.pinned (OpenSpec.upto fnExactFrameOfSpec)

/-- 'laws.FnExactUnframeAll', WHERE WHAT IT READS IS OF BULK AT MOST 1048576: true; the input reads as it did. -/
def fnExactUnframeAllUptoRow : OpenClaim := { program := "ytcpjbacjmmbabaa", sum := "5d1eb3ff1baa942c97b885d652a1bdb44e05ad5cb66fa76008c2bbf137a2dc7e", func := "loop.example/g00333/laws.FnExactUnframeAll", spec := "fnExactUnframeAll", apart := false, narrowed := true }
def FnExactUnframeAllUptoSaid : Prop := fnExactUnframeAllUptoRow.holds Try.pinned (OpenSpec.upto fnExactUnframeAllSpec)

/-- 'laws.FnExactNewReader', WHERE WHAT IT READS IS OF BULK AT MOST 1048576: true; the input reads as it did. -/
def fnExactNewReaderUptoRow : OpenClaim := { program := "ytcpjbacjmmbabaa", sum := "5d1eb3ff1baa942c97b885d652a1bdb44e05ad5cb66fa76008c2bbf137a2dc7e", func := "loop.example/g00333/laws.FnExactNewReader", spec := "fnExactNewReader", apart := false, narrowed := true }
def FnExactNewReaderUptoSaid : Prop := fnExactNewReaderUptoRow.holds Try.pinned (OpenSpec.upto fnExactNewReaderSpec)

/-- 'laws.FnExactGoodReader', WHERE WHAT IT READS IS OF BULK AT MOST 1048576: true; the input reads as it did. -/
def fnExactGoodReaderUptoRow : OpenClaim := { program := "ytcpjbacjmmbabaa", sum := "5d1eb3ff1baa942c97b885d652a1bdb44e05ad5cb66fa76008c2bbf137a2dc7e", func := "loop.example/g00333/laws.FnExactGoodReader", spec := "fnExactGoodReader", apart := false, narrowed := true }
def FnExactGoodReaderUptoSaid : Prop := fnExactGoodReaderUptoRow.holds Try.pinned (OpenSpec.upto fnExactGoodReaderSpec)

/-- 'laws.FnExactFeedReader', WHERE WHAT IT READS IS OF BULK AT MOST 1048576: true; the input reads as it did. -/
def fnExactFeedReaderUptoRow : OpenClaim := { program := "ytcpjbacjmmbabaa", sum := "5d1eb3ff1baa942c97b885d652a1bdb44e05ad5cb66fa76008c2bbf137a2dc7e", func := "loop.example/g00333/laws.FnExactFeedReader", spec := "fnExactFeedReader", apart := false, narrowed := true }
def FnExactFeedReaderUptoSaid : Prop := fnExactFeedReaderUptoRow.holds Try.pinned (OpenSpec.upto fnExactFeedReaderSpec)

/-- 'laws.FnExactTakeFrame', WHERE WHAT IT READS IS OF BULK AT MOST 1048576: true; the input reads as it did. -/
def fnExactTakeFrameUptoRow : OpenClaim := { program := "ytcpjbacjmmbabaa", sum := "5d1eb3ff1baa942c97b885d652a1bdb44e05ad5cb66fa76008c2bbf137a2dc7e", func := "loop.example/g00333/laws.FnExactTakeFrame", spec := "fnExactTakeFrame", apart := false, narrowed := true }
def FnExactTakeFrameUptoSaid : Prop := fnExactTakeFrameUptoRow.holds Try.pinned (OpenSpec.upto fnExactTakeFrameSpec)

/-- 'laws.FnExactFeedAll', WHERE WHAT IT READS IS OF BULK AT MOST 1048576: true; the input reads as it did. -/
def fnExactFeedAllUptoRow : OpenClaim := { program := "ytcpjbacjmmbabaa", sum := "5d1eb3ff1baa942c97b885d652a1bdb44e05ad5cb66fa76008c2bbf137a2dc7e", func := "loop.example/g00333/laws.FnExactFeedAll", spec := "fnExactFeedAll", apart := false, narrowed := true }
def FnExactFeedAllUptoSaid : Prop := fnExactFeedAllUptoRow.holds Try.pinned (OpenSpec.upto fnExactFeedAllSpec)

/-- 'laws.FnFrames', WHERE WHAT IT READS IS OF BULK AT MOST 1048576: true; the input reads as it did. -/
def fnFramesUptoRow : OpenClaim := { program := "ytcpjbacjmmbabaa", sum := "5d1eb3ff1baa942c97b885d652a1bdb44e05ad5cb66fa76008c2bbf137a2dc7e", func := "loop.example/g00333/laws.FnFrames", spec := "fnFrames", apart := false, narrowed := true }
def FnFramesUptoSaid : Prop := fnFramesUptoRow.holds Try.pinned (OpenSpec.upto fnFramesSpec)

/-- 'laws.FnStream', WHERE WHAT IT READS IS OF BULK AT MOST 1048576: true; the input reads as it did. -/
def fnStreamUptoRow : OpenClaim := { program := "ytcpjbacjmmbabaa", sum := "5d1eb3ff1baa942c97b885d652a1bdb44e05ad5cb66fa76008c2bbf137a2dc7e", func := "loop.example/g00333/laws.FnStream", spec := "fnStream", apart := false, narrowed := true }
def FnStreamUptoSaid : Prop := fnStreamUptoRow.holds Try.pinned (OpenSpec.upto fnStreamSpec)

end Rows
end Go.Proofs.Ytcpjbacjmmbabaa
