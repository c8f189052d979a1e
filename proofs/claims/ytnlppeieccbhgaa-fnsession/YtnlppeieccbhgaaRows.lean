/-
  No cell of these rows narrows 'for every input' (looked for: loops, veiled, ifaces, maps, wideKeys, modest, calm, conditions, laid).
  DERIVED. THE GIVEN ROWS OF THIS SEAT. 8 by the template 'for every input the law returns true; each argument reads behind the call as it read before'; 0 by the template 'total and deterministic' (their statements: YtnlppeieccbhgaaTotals.lean).
  GIVEN WITH THE SEED: the statements are not yours to turn. If you find one false, say at which input.
  Laid BY PROGRAM, IN A SANDBOX (cutbox-rows.mjs): the forced cells as the released guide's own fill.sh prints them over the translation 1f22c24be3ca9dae… (all of the seat's roots in one cut). By AI agents, Wed Nov 11 2026. No macro, syntax, notation, axiom, sorry.
-/
import Derived.Test.YtnlppeieccbhgaaChecked
import GoSem.Claim
import GoSem.ClaimJoined
import GoSem.ClaimMapViews
import Derived.JoinedTies
import Derived.KernelRfl
namespace Go.Proofs.Ytnlppeieccbhgaa
/- THE CELL 'sum', in the pinned program and in every row, IS THE sha256 OF THE DUMP (.gsa) THAT YtnlppeieccbhgaaProg.lean LOADS. Nothing in Lean hashes anything: it is a label: what it is worth is what the hold of that sum in a sandbox is worth. -/
noncomputable def Try.pinned : Pinned := { name := "ytnlppeieccbhgaa", sum := "1f22c24be3ca9daed2d5a5f92645975ae8700772693cd2415fcea7a22a3ad8f9", checked := Try.checked }
namespace Rows
def none {H : Type} : Left H := { results := [], args := [] }

/-- 'laws.FnExactNewSession': WHATEVER THE INPUT: true; the input reads as it did. -/
def fnExactNewSessionSpec : ChangeSpec := { name := "fnExactNewSession", fn := fun _ => fun
  | [d] => { results := [.lit (.bool true)], args := [d] }
  | _ => none }
def fnExactNewSessionRow : OpenClaim := { program := "ytnlppeieccbhgaa", sum := "1f22c24be3ca9daed2d5a5f92645975ae8700772693cd2415fcea7a22a3ad8f9", func := "loop.example/g00333/laws.FnExactNewSession", spec := "fnExactNewSession", apart := false }
def FnExactNewSessionSaid : Prop := fnExactNewSessionRow.holds Try.pinned (OpenSpec.ofChange fnExactNewSessionSpec)

/-- ITS FALSE NEIGHBOUR: 'it returns false'. Refute it at one input. -/
def fnExactNewSessionWrong : ChangeSpec := { name := "fnExactNewSession", fn := fun _ => fun
  | [d] => { results := [.lit (.bool false)], args := [d] }
  | _ => none }
def FnExactNewSessionWrongFalsely : Prop := fnExactNewSessionRow.holds Try.pinned (OpenSpec.ofChange fnExactNewSessionWrong)

/-- 'laws.FnExactGoodSession': WHATEVER THE INPUT: true; the input reads as it did. -/
def fnExactGoodSessionSpec : ChangeSpec := { name := "fnExactGoodSession", fn := fun _ => fun
  | [d] => { results := [.lit (.bool true)], args := [d] }
  | _ => none }
def fnExactGoodSessionRow : OpenClaim := { program := "ytnlppeieccbhgaa", sum := "1f22c24be3ca9daed2d5a5f92645975ae8700772693cd2415fcea7a22a3ad8f9", func := "loop.example/g00333/laws.FnExactGoodSession", spec := "fnExactGoodSession", apart := false }
def FnExactGoodSessionSaid : Prop := fnExactGoodSessionRow.holds Try.pinned (OpenSpec.ofChange fnExactGoodSessionSpec)

/-- ITS FALSE NEIGHBOUR: 'it returns false'. Refute it at one input. -/
def fnExactGoodSessionWrong : ChangeSpec := { name := "fnExactGoodSession", fn := fun _ => fun
  | [d] => { results := [.lit (.bool false)], args := [d] }
  | _ => none }
def FnExactGoodSessionWrongFalsely : Prop := fnExactGoodSessionRow.holds Try.pinned (OpenSpec.ofChange fnExactGoodSessionWrong)

/-- 'laws.FnExactPendingIn': WHATEVER THE INPUT: true; the input reads as it did. -/
def fnExactPendingInSpec : ChangeSpec := { name := "fnExactPendingIn", fn := fun _ => fun
  | [d] => { results := [.lit (.bool true)], args := [d] }
  | _ => none }
def fnExactPendingInRow : OpenClaim := { program := "ytnlppeieccbhgaa", sum := "1f22c24be3ca9daed2d5a5f92645975ae8700772693cd2415fcea7a22a3ad8f9", func := "loop.example/g00333/laws.FnExactPendingIn", spec := "fnExactPendingIn", apart := false }
def FnExactPendingInSaid : Prop := fnExactPendingInRow.holds Try.pinned (OpenSpec.ofChange fnExactPendingInSpec)

/-- ITS FALSE NEIGHBOUR: 'it returns false'. Refute it at one input. -/
def fnExactPendingInWrong : ChangeSpec := { name := "fnExactPendingIn", fn := fun _ => fun
  | [d] => { results := [.lit (.bool false)], args := [d] }
  | _ => none }
def FnExactPendingInWrongFalsely : Prop := fnExactPendingInRow.holds Try.pinned (OpenSpec.ofChange fnExactPendingInWrong)

/-- 'laws.FnExactStepSession': WHATEVER THE INPUT: true; the input reads as it did. -/
def fnExactStepSessionSpec : ChangeSpec := { name := "fnExactStepSession", fn := fun _ => fun
  | [d1, d2] => { results := [.lit (.bool true)], args := [d1, d2] }
  | _ => none }
def fnExactStepSessionRow : OpenClaim := { program := "ytnlppeieccbhgaa", sum := "1f22c24be3ca9daed2d5a5f92645975ae8700772693cd2415fcea7a22a3ad8f9", func := "loop.example/g00333/laws.FnExactStepSession", spec := "fnExactStepSession", inPlace := ["sync/atomic.LoadInt64", "sync/atomic.StoreInt64", "sync/atomic.AddInt64"], apart := false }
def FnExactStepSessionSaid : Prop := fnExactStepSessionRow.holds Try.pinned (OpenSpec.ofChange fnExactStepSessionSpec)

/-- ITS FALSE NEIGHBOUR: 'it returns false'. Refute it at one input. -/
def fnExactStepSessionWrong : ChangeSpec := { name := "fnExactStepSession", fn := fun _ => fun
  | [d1, d2] => { results := [.lit (.bool false)], args := [d1, d2] }
  | _ => none }
def FnExactStepSessionWrongFalsely : Prop := fnExactStepSessionRow.holds Try.pinned (OpenSpec.ofChange fnExactStepSessionWrong)

/-- 'laws.FnExactPlaySession': WHATEVER THE INPUT: true; the input reads as it did. -/
def fnExactPlaySessionSpec : ChangeSpec := { name := "fnExactPlaySession", fn := fun _ => fun
  | [d1, d2] => { results := [.lit (.bool true)], args := [d1, d2] }
  | _ => none }
def fnExactPlaySessionRow : OpenClaim := { program := "ytnlppeieccbhgaa", sum := "1f22c24be3ca9daed2d5a5f92645975ae8700772693cd2415fcea7a22a3ad8f9", func := "loop.example/g00333/laws.FnExactPlaySession", spec := "fnExactPlaySession", inPlace := ["sync/atomic.LoadInt64", "sync/atomic.StoreInt64", "sync/atomic.AddInt64"], apart := false }
def FnExactPlaySessionSaid : Prop := fnExactPlaySessionRow.holds Try.pinned (OpenSpec.ofChange fnExactPlaySessionSpec)

/-- ITS FALSE NEIGHBOUR: 'it returns false'. Refute it at one input. -/
def fnExactPlaySessionWrong : ChangeSpec := { name := "fnExactPlaySession", fn := fun _ => fun
  | [d1, d2] => { results := [.lit (.bool false)], args := [d1, d2] }
  | _ => none }
def FnExactPlaySessionWrongFalsely : Prop := fnExactPlaySessionRow.holds Try.pinned (OpenSpec.ofChange fnExactPlaySessionWrong)

/-- 'laws.FnExactCalmSession': WHATEVER THE INPUT: true; the input reads as it did. -/
def fnExactCalmSessionSpec : ChangeSpec := { name := "fnExactCalmSession", fn := fun _ => fun
  | [d] => { results := [.lit (.bool true)], args := [d] }
  | _ => none }
def fnExactCalmSessionRow : OpenClaim := { program := "ytnlppeieccbhgaa", sum := "1f22c24be3ca9daed2d5a5f92645975ae8700772693cd2415fcea7a22a3ad8f9", func := "loop.example/g00333/laws.FnExactCalmSession", spec := "fnExactCalmSession", inPlace := ["sync/atomic.LoadInt64", "sync/atomic.StoreInt64", "sync/atomic.AddInt64"], apart := false }
def FnExactCalmSessionSaid : Prop := fnExactCalmSessionRow.holds Try.pinned (OpenSpec.ofChange fnExactCalmSessionSpec)

/-- ITS FALSE NEIGHBOUR: 'it returns false'. Refute it at one input. -/
def fnExactCalmSessionWrong : ChangeSpec := { name := "fnExactCalmSession", fn := fun _ => fun
  | [d] => { results := [.lit (.bool false)], args := [d] }
  | _ => none }
def FnExactCalmSessionWrongFalsely : Prop := fnExactCalmSessionRow.holds Try.pinned (OpenSpec.ofChange fnExactCalmSessionWrong)

/-- 'laws.FnSteps': WHATEVER THE INPUT: true; the input reads as it did. -/
def fnStepsSpec : ChangeSpec := { name := "fnSteps", fn := fun _ => fun
  | [d1, d2] => { results := [.lit (.bool true)], args := [d1, d2] }
  | _ => none }
def fnStepsRow : OpenClaim := { program := "ytnlppeieccbhgaa", sum := "1f22c24be3ca9daed2d5a5f92645975ae8700772693cd2415fcea7a22a3ad8f9", func := "loop.example/g00333/laws.FnSteps", spec := "fnSteps", inPlace := ["sync/atomic.LoadInt64", "sync/atomic.StoreInt64", "sync/atomic.AddInt64"], apart := false }
def FnStepsSaid : Prop := fnStepsRow.holds Try.pinned (OpenSpec.ofChange fnStepsSpec)

/-- ITS FALSE NEIGHBOUR: 'it returns false'. Refute it at one input. -/
def fnStepsWrong : ChangeSpec := { name := "fnSteps", fn := fun _ => fun
  | [d1, d2] => { results := [.lit (.bool false)], args := [d1, d2] }
  | _ => none }
def FnStepsWrongFalsely : Prop := fnStepsRow.holds Try.pinned (OpenSpec.ofChange fnStepsWrong)

/-- 'laws.FnSession': WHATEVER THE INPUT: true; the input reads as it did. -/
def fnSessionSpec : ChangeSpec := { name := "fnSession", fn := fun _ => fun
  | [d] => { results := [.lit (.bool true)], args := [d] }
  | _ => none }
def fnSessionRow : OpenClaim := { program := "ytnlppeieccbhgaa", sum := "1f22c24be3ca9daed2d5a5f92645975ae8700772693cd2415fcea7a22a3ad8f9", func := "loop.example/g00333/laws.FnSession", spec := "fnSession", inPlace := ["sync/atomic.LoadInt64", "sync/atomic.StoreInt64", "sync/atomic.AddInt64"], apart := false }
def FnSessionSaid : Prop := fnSessionRow.holds Try.pinned (OpenSpec.ofChange fnSessionSpec)

/-- ITS FALSE NEIGHBOUR: 'it returns false'. Refute it at one input. -/
def fnSessionWrong : ChangeSpec := { name := "fnSession", fn := fun _ => fun
  | [d] => { results := [.lit (.bool false)], args := [d] }
  | _ => none }
def FnSessionWrongFalsely : Prop := fnSessionRow.holds Try.pinned (OpenSpec.ofChange fnSessionWrong)

/- THE SECOND FORM. 'bulk': how many values and letters a reading holds, each counted each time it is reached (what is shared counts as often as it is met; a slice's spare places count too). A statement '..UptoSaid' is the law's where the arguments, and the package variables that the reading takes, are together of bulk at most 1048576: NARROWER than '..Said'. Prove '..Said' where nothing that the law and all that it calls make is longer than what came in: it says more and counts as full. Else prove '..UptoSaid'. A law counts once. -/
mutual
def uptoBulk {H : Type} : DataW H → Nat
  | .lit (.string bytes) => bytes.length + 1
  | .lit _ => 1
  | .nil => 1
  | .ptr d => uptoBulk d + 1
  | .slice elems spare => uptoBulkAll elems + uptoBulkAll spare + 1
  | .agg parts => uptoBulkAll parts + 1
  | .iface _ d => uptoBulk d + 1
  | .map entries => uptoBulkEntries entries + 1
  | .held _ => 1
def uptoBulkAll {H : Type} : List (DataW H) → Nat
  | [] => 0
  | d :: r => uptoBulk d + uptoBulkAll r
def uptoBulkEntries {H : Type} : List (Lit × DataW H) → Nat
  | [] => 0
  | x :: r => uptoBulkEntry x + uptoBulkEntries r
def uptoBulkEntry {H : Type} : Lit × DataW H → Nat
  | (.string bytes, d) => bytes.length + uptoBulk d + 1
  | (_, d) => uptoBulk d + 1
 end
def uptoSmall : (H : Type) → List (DataW H) → Bool := fun _ ds => decide (uptoBulkAll ds ≤ 1048576)
def OpenSpec.upto (s : _root_.Go.ChangeSpec) : _root_.Go.OpenSpec := { _root_.Go.OpenSpec.ofChange s with cond := some uptoSmall }

/-- 'laws.FnExactNewSession', WHERE WHAT IT READS IS OF BULK AT MOST 1048576: true; the input reads as it did. -/
def fnExactNewSessionUptoRow : OpenClaim := { program := "ytnlppeieccbhgaa", sum := "1f22c24be3ca9daed2d5a5f92645975ae8700772693cd2415fcea7a22a3ad8f9", func := "loop.example/g00333/laws.FnExactNewSession", spec := "fnExactNewSession", apart := false, narrowed := true }
def FnExactNewSessionUptoSaid : Prop := fnExactNewSessionUptoRow.holds Try.pinned (OpenSpec.upto fnExactNewSessionSpec)

/-- 'laws.FnExactGoodSession', WHERE WHAT IT READS IS OF BULK AT MOST 1048576: true; the input reads as it did. -/
def fnExactGoodSessionUptoRow : OpenClaim := { program := "ytnlppeieccbhgaa", sum := "1f22c24be3ca9daed2d5a5f92645975ae8700772693cd2415fcea7a22a3ad8f9", func := "loop.example/g00333/laws.FnExactGoodSession", spec := "fnExactGoodSession", apart := false, narrowed := true }
def FnExactGoodSessionUptoSaid : Prop := fnExactGoodSessionUptoRow.holds Try.pinned (OpenSpec.upto fnExactGoodSessionSpec)

/-- 'laws.FnExactPendingIn', WHERE WHAT IT READS IS OF BULK AT MOST 1048576: true; the input reads as it did. -/
def fnExactPendingInUptoRow : OpenClaim := { program := "ytnlppeieccbhgaa", sum := "1f22c24be3ca9daed2d5a5f92645975ae8700772693cd2415fcea7a22a3ad8f9", func := "loop.example/g00333/laws.FnExactPendingIn", spec := "fnExactPendingIn", apart := false, narrowed := true }
def FnExactPendingInUptoSaid : Prop := fnExactPendingInUptoRow.holds Try.pinned (OpenSpec.upto fnExactPendingInSpec)

/-- 'laws.FnExactStepSession', WHERE WHAT IT READS IS OF BULK AT MOST 1048576: true; the input reads as it did. -/
def fnExactStepSessionUptoRow : OpenClaim := { program := "ytnlppeieccbhgaa", sum := "1f22c24be3ca9daed2d5a5f92645975ae8700772693cd2415fcea7a22a3ad8f9", func := "loop.example/g00333/laws.FnExactStepSession", spec := "fnExactStepSession", inPlace := ["sync/atomic.LoadInt64", "sync/atomic.StoreInt64", "sync/atomic.AddInt64"], apart := false, narrowed := true }
def FnExactStepSessionUptoSaid : Prop := fnExactStepSessionUptoRow.holds Try.pinned (OpenSpec.upto fnExactStepSessionSpec)

/-- 'laws.FnExactPlaySession', WHERE WHAT IT READS IS OF BULK AT MOST 1048576: true; the input reads as it did. -/
def fnExactPlaySessionUptoRow : OpenClaim := { program := "ytnlppeieccbhgaa", sum := "1f22c24be3ca9daed2d5a5f92645975ae8700772693cd2415fcea7a22a3ad8f9", func := "loop.example/g00333/laws.FnExactPlaySession", spec := "fnExactPlaySession", inPlace := ["sync/atomic.LoadInt64", "sync/atomic.StoreInt64", "sync/atomic.AddInt64"], apart := false, narrowed := true }
def FnExactPlaySessionUptoSaid : Prop := fnExactPlaySessionUptoRow.holds Try.pinned (OpenSpec.upto fnExactPlaySessionSpec)

/-- 'laws.FnExactCalmSession', WHERE WHAT IT READS IS OF BULK AT MOST 1048576: true; the input reads as it did. -/
def fnExactCalmSessionUptoRow : OpenClaim := { program := "ytnlppeieccbhgaa", sum := "1f22c24be3ca9daed2d5a5f92645975ae8700772693cd2415fcea7a22a3ad8f9", func := "loop.example/g00333/laws.FnExactCalmSession", spec := "fnExactCalmSession", inPlace := ["sync/atomic.LoadInt64", "sync/atomic.StoreInt64", "sync/atomic.AddInt64"], apart := false, narrowed := true }
def FnExactCalmSessionUptoSaid : Prop := fnExactCalmSessionUptoRow.holds Try.pinned (OpenSpec.upto fnExactCalmSessionSpec)

/-- 'laws.FnSteps', WHERE WHAT IT READS IS OF BULK AT MOST 1048576: true; the input reads as it did. -/
def fnStepsUptoRow : OpenClaim := { program := "ytnlppeieccbhgaa", sum := "1f22c24be3ca9daed2d5a5f92645975ae8700772693cd2415fcea7a22a3ad8f9", func := "loop.example/g00333/laws.FnSteps", spec := "fnSteps", inPlace := ["sync/atomic.LoadInt64", "sync/atomic.StoreInt64", "sync/atomic.AddInt64"], apart := false, narrowed := true }
def FnStepsUptoSaid : Prop := fnStepsUptoRow.holds Try.pinned (OpenSpec.upto fnStepsSpec)

/-- 'laws.FnSession', WHERE WHAT IT READS IS OF BULK AT MOST 1048576: true; the input reads as it did. -/
def fnSessionUptoRow : OpenClaim := { program := "ytnlppeieccbhgaa", sum := "1f22c24be3ca9daed2d5a5f92645975ae8700772693cd2415fcea7a22a3ad8f9", func := "loop.example/g00333/laws.FnSession", spec := "fnSession", inPlace := ["sync/atomic.LoadInt64", "sync/atomic.StoreInt64", "sync/atomic.AddInt64"], apart := false, narrowed := true }
def FnSessionUptoSaid : Prop := fnSessionUptoRow.holds Try.pinned (OpenSpec.upto fnSessionSpec)

end Rows
end Go.Proofs.Ytnlppeieccbhgaa
