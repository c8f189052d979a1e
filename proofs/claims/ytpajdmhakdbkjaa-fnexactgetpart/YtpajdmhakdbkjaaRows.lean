/-
  No cell of these rows narrows 'for every input' (looked for: loops, veiled, ifaces, maps, wideKeys, modest, calm, conditions, laid).
  DERIVED. THE GIVEN ROWS OF THIS SEAT. 6 by the template 'for every input the law returns true; each argument reads behind the call as it read before'; 0 by the template 'total and deterministic' (their statements: YtpajdmhakdbkjaaTotals.lean).
  GIVEN WITH THE SEED: the statements are not yours to turn. If you find one false, say at which input.
  Laid BY PROGRAM, IN A SANDBOX (cutbox-rows.mjs): the forced cells as the released guide's own fill.sh prints them over the translation 53d9dfbf5f8d0854… (all of the seat's roots in one cut). By AI agents, Wed Nov 11 2026. No macro, syntax, notation, axiom, sorry.
-/
import Derived.Test.YtpajdmhakdbkjaaChecked
import GoSem.Claim
import GoSem.ClaimJoined
import GoSem.ClaimMapViews
import Derived.JoinedTies
import Derived.KernelRfl
namespace Go.Proofs.Ytpajdmhakdbkjaa
/- THE CELL 'sum', in the pinned program and in every row, IS THE sha256 OF THE DUMP (.gsa) THAT YtpajdmhakdbkjaaProg.lean LOADS. Nothing in Lean hashes anything: it is a label: what it is worth is what the hold of that sum in a sandbox is worth. -/
noncomputable def Try.pinned : Pinned := { name := "ytpajdmhakdbkjaa", sum := "53d9dfbf5f8d08541a64ad56f085eca1a372566ac1575c357adf63efb5131be2", checked := Try.checked }
namespace Rows
def none {H : Type} : Left H := { results := [], args := [] }

/-- 'laws.FnDefaults': WHATEVER THE INPUT: true; the input reads as it did. -/
def fnDefaultsSpec : ChangeSpec := { name := "fnDefaults", fn := fun _ => fun
  | [d1, d2] => { results := [.lit (.bool true)], args := [d1, d2] }
  | _ => none }
def fnDefaultsRow : OpenClaim := { program := "ytpajdmhakdbkjaa", sum := "53d9dfbf5f8d08541a64ad56f085eca1a372566ac1575c357adf63efb5131be2", func := "loop.example/g00333/laws.FnDefaults", spec := "fnDefaults", unfollowed := true, recurses := true, apart := false }
def FnDefaultsSaid : Prop := fnDefaultsRow.holds Try.pinned (OpenSpec.ofChange fnDefaultsSpec)

/-- ITS FALSE NEIGHBOUR: 'it returns false'. Refute it at one input. -/
def fnDefaultsWrong : ChangeSpec := { name := "fnDefaults", fn := fun _ => fun
  | [d1, d2] => { results := [.lit (.bool false)], args := [d1, d2] }
  | _ => none }
def FnDefaultsWrongFalsely : Prop := fnDefaultsRow.holds Try.pinned (OpenSpec.ofChange fnDefaultsWrong)

/-- 'laws.FnExactFitsSchema': WHATEVER THE INPUT: true; the input reads as it did. -/
def fnExactFitsSchemaSpec : ChangeSpec := { name := "fnExactFitsSchema", fn := fun _ => fun
  | [d1, d2] => { results := [.lit (.bool true)], args := [d1, d2] }
  | _ => none }
def fnExactFitsSchemaRow : OpenClaim := { program := "ytpajdmhakdbkjaa", sum := "53d9dfbf5f8d08541a64ad56f085eca1a372566ac1575c357adf63efb5131be2", func := "loop.example/g00333/laws.FnExactFitsSchema", spec := "fnExactFitsSchema", recurses := true, apart := false }
def FnExactFitsSchemaSaid : Prop := fnExactFitsSchemaRow.holds Try.pinned (OpenSpec.ofChange fnExactFitsSchemaSpec)

/-- ITS FALSE NEIGHBOUR: 'it returns false'. Refute it at one input. -/
def fnExactFitsSchemaWrong : ChangeSpec := { name := "fnExactFitsSchema", fn := fun _ => fun
  | [d1, d2] => { results := [.lit (.bool false)], args := [d1, d2] }
  | _ => none }
def FnExactFitsSchemaWrongFalsely : Prop := fnExactFitsSchemaRow.holds Try.pinned (OpenSpec.ofChange fnExactFitsSchemaWrong)

/-- 'laws.FnExactNodesIn': WHATEVER THE INPUT: true; the input reads as it did. -/
def fnExactNodesInSpec : ChangeSpec := { name := "fnExactNodesIn", fn := fun _ => fun
  | [d1, d2] => { results := [.lit (.bool true)], args := [d1, d2] }
  | _ => none }
def fnExactNodesInRow : OpenClaim := { program := "ytpajdmhakdbkjaa", sum := "53d9dfbf5f8d08541a64ad56f085eca1a372566ac1575c357adf63efb5131be2", func := "loop.example/g00333/laws.FnExactNodesIn", spec := "fnExactNodesIn", recurses := true, apart := false }
def FnExactNodesInSaid : Prop := fnExactNodesInRow.holds Try.pinned (OpenSpec.ofChange fnExactNodesInSpec)

/-- ITS FALSE NEIGHBOUR: 'it returns false'. Refute it at one input. -/
def fnExactNodesInWrong : ChangeSpec := { name := "fnExactNodesIn", fn := fun _ => fun
  | [d1, d2] => { results := [.lit (.bool false)], args := [d1, d2] }
  | _ => none }
def FnExactNodesInWrongFalsely : Prop := fnExactNodesInRow.holds Try.pinned (OpenSpec.ofChange fnExactNodesInWrong)

/-- 'laws.FnExactGetPart': WHATEVER THE INPUT: true; the input reads as it did. -/
def fnExactGetPartSpec : ChangeSpec := { name := "fnExactGetPart", fn := fun _ => fun
  | [d1, d2, d3] => { results := [.lit (.bool true)], args := [d1, d2, d3] }
  | _ => none }
def fnExactGetPartRow : OpenClaim := { program := "ytpajdmhakdbkjaa", sum := "53d9dfbf5f8d08541a64ad56f085eca1a372566ac1575c357adf63efb5131be2", func := "loop.example/g00333/laws.FnExactGetPart", spec := "fnExactGetPart", unfollowed := true, recurses := true, apart := false }
def FnExactGetPartSaid : Prop := fnExactGetPartRow.holds Try.pinned (OpenSpec.ofChange fnExactGetPartSpec)

/-- ITS FALSE NEIGHBOUR: 'it returns false'. Refute it at one input. -/
def fnExactGetPartWrong : ChangeSpec := { name := "fnExactGetPart", fn := fun _ => fun
  | [d1, d2, d3] => { results := [.lit (.bool false)], args := [d1, d2, d3] }
  | _ => none }
def FnExactGetPartWrongFalsely : Prop := fnExactGetPartRow.holds Try.pinned (OpenSpec.ofChange fnExactGetPartWrong)

/-- 'laws.FnExactComposeNos': WHATEVER THE INPUT: true; the input reads as it did. -/
def fnExactComposeNosSpec : ChangeSpec := { name := "fnExactComposeNos", fn := fun _ => fun
  | [d1, d2] => { results := [.lit (.bool true)], args := [d1, d2] }
  | _ => none }
def fnExactComposeNosRow : OpenClaim := { program := "ytpajdmhakdbkjaa", sum := "53d9dfbf5f8d08541a64ad56f085eca1a372566ac1575c357adf63efb5131be2", func := "loop.example/g00333/laws.FnExactComposeNos", spec := "fnExactComposeNos", apart := false }
def FnExactComposeNosSaid : Prop := fnExactComposeNosRow.holds Try.pinned (OpenSpec.ofChange fnExactComposeNosSpec)

/-- ITS FALSE NEIGHBOUR: 'it returns false'. Refute it at one input. -/
def fnExactComposeNosWrong : ChangeSpec := { name := "fnExactComposeNos", fn := fun _ => fun
  | [d1, d2] => { results := [.lit (.bool false)], args := [d1, d2] }
  | _ => none }
def FnExactComposeNosWrongFalsely : Prop := fnExactComposeNosRow.holds Try.pinned (OpenSpec.ofChange fnExactComposeNosWrong)

/-- 'laws.FnExactCanRead': WHATEVER THE INPUT: true; the input reads as it did. -/
def fnExactCanReadSpec : ChangeSpec := { name := "fnExactCanRead", fn := fun _ => fun
  | [d1, d2] => { results := [.lit (.bool true)], args := [d1, d2] }
  | _ => none }
def fnExactCanReadRow : OpenClaim := { program := "ytpajdmhakdbkjaa", sum := "53d9dfbf5f8d08541a64ad56f085eca1a372566ac1575c357adf63efb5131be2", func := "loop.example/g00333/laws.FnExactCanRead", spec := "fnExactCanRead", unfollowed := true, recurses := true, apart := false }
def FnExactCanReadSaid : Prop := fnExactCanReadRow.holds Try.pinned (OpenSpec.ofChange fnExactCanReadSpec)

/-- ITS FALSE NEIGHBOUR: 'it returns false'. Refute it at one input. -/
def fnExactCanReadWrong : ChangeSpec := { name := "fnExactCanRead", fn := fun _ => fun
  | [d1, d2] => { results := [.lit (.bool false)], args := [d1, d2] }
  | _ => none }
def FnExactCanReadWrongFalsely : Prop := fnExactCanReadRow.holds Try.pinned (OpenSpec.ofChange fnExactCanReadWrong)

/- THE SECOND FORM. 'bulk': how many values and letters a reading holds, each counted each time it is reached (what is shared counts as often as it is met; a slice's spare places count too). A statement '..UptoSaid' is the law's where the arguments, and the package variables that the reading takes, are together of bulk at most 1048576: NARROWER than '..Said'. Prove '..Said' where nothing that the law and all that it calls make is longer than what came in: it says more and counts as full. Else prove '..UptoSaid'. A law counts once. -/
mutual
def uptoBulk {H : Type} : DataW H → Nat
  | .lit (.string bytes) => bytes.length + 1
  | .lit _ => 1
  | .nil => 1
  | .ptr d => uptoBulk d + 1
  | .slice elems spare => uptoBulkAll elems + uptoBulkAll spare + 1
  | .agg parts => uptoBulkAll parts + 1
  | .iface _ d => uptoBulk d + 1
  | .map entries => uptoBulkEntries entries + 1
  | .held _ => 1
def uptoBulkAll {H : Type} : List (DataW H) → Nat
  | [] => 0
  | d :: r => uptoBulk d + uptoBulkAll r
def uptoBulkEntries {H : Type} : List (Lit × DataW H) → Nat
  | [] => 0
  | x :: r => uptoBulkEntry x + uptoBulkEntries r
def uptoBulkEntry {H : Type} : Lit × DataW H → Nat
  | (.string bytes, d) => bytes.length + uptoBulk d + 1
  | (_, d) => uptoBulk d + 1
 end
def uptoSmall : (H : Type) → List (DataW H) → Bool := fun _ ds => decide (uptoBulkAll ds ≤ 1048576)
def OpenSpec.upto (s : _root_.Go.ChangeSpec) : _root_.Go.OpenSpec := { _root_.Go.OpenSpec.ofChange s with cond := some uptoSmall }

/-- 'laws.FnDefaults', WHERE WHAT IT READS IS OF BULK AT MOST 1048576: true; the input reads as it did. -/
def fnDefaultsUptoRow : OpenClaim := { program := "ytpajdmhakdbkjaa", sum := "53d9dfbf5f8d08541a64ad56f085eca1a372566ac1575c357adf63efb5131be2", func := "loop.example/g00333/laws.FnDefaults", spec := "fnDefaults", unfollowed := true, recurses := true, apart := false, narrowed := true }
def FnDefaultsUptoSaid : Prop := fnDefaultsUptoRow.holds Try.pinned (OpenSpec.upto fnDefaultsSpec)

/-- 'laws.FnExactFitsSchema', WHERE WHAT IT READS IS OF BULK AT MOST 1048576: true; the input reads as it did. -/
def fnExactFitsSchemaUptoRow : OpenClaim := { program := "ytpajdmhakdbkjaa", sum := "53d9dfbf5f8d08541a64ad56f085eca1a372566ac1575c357adf63efb5131be2", func := "loop.example/g00333/laws.FnExactFitsSchema", spec := "fnExactFitsSchema", recurses := true, apart := false, narrowed := true }
def FnExactFitsSchemaUptoSaid : Prop := fnExactFitsSchemaUptoRow.holds Try.pinned (OpenSpec.upto fnExactFitsSchemaSpec)

/-- 'laws.FnExactNodesIn', WHERE WHAT IT READS IS OF BULK AT MOST 1048576: true; the input reads as it did. -/
def fnExactNodesInUptoRow : OpenClaim := { program := "ytpajdmhakdbkjaa", sum := "53d9dfbf5f8d08541a64ad56f085eca1a372566ac1575c357adf63efb5131be2", func := "loop.example/g00333/laws.FnExactNodesIn", spec := "fnExactNodesIn", recurses := true, apart := false, narrowed := true }
def FnExactNodesInUptoSaid : Prop := fnExactNodesInUptoRow.holds Try.pinned (OpenSpec.upto fnExactNodesInSpec)

/-- 'laws.FnExactGetPart', WHERE WHAT IT READS IS OF BULK AT MOST 1048576: true; the input reads as it did. -/
def fnExactGetPartUptoRow : OpenClaim := { program := "ytpajdmhakdbkjaa", sum := "53d9dfbf5f8d08541a64ad56f085eca1a372566ac1575c357adf63efb5131be2", func := "loop.example/g00333/laws.FnExactGetPart", spec := "fnExactGetPart", unfollowed := true, recurses := true, apart := false, narrowed := true }
def FnExactGetPartUptoSaid : Prop := fnExactGetPartUptoRow.holds Try.pinned (OpenSpec.upto fnExactGetPartSpec)

/-- 'laws.FnExactComposeNos', WHERE WHAT IT READS IS OF BULK AT MOST 1048576: true; the input reads as it did. -/
def fnExactComposeNosUptoRow : OpenClaim := { program := "ytpajdmhakdbkjaa", sum := "53d9dfbf5f8d08541a64ad56f085eca1a372566ac1575c357adf63efb5131be2", func := "loop.example/g00333/laws.FnExactComposeNos", spec := "fnExactComposeNos", apart := false, narrowed := true }
def FnExactComposeNosUptoSaid : Prop := fnExactComposeNosUptoRow.holds Try.pinned (OpenSpec.upto fnExactComposeNosSpec)

/-- 'laws.FnExactCanRead', WHERE WHAT IT READS IS OF BULK AT MOST 1048576: true; the input reads as it did. -/
def fnExactCanReadUptoRow : OpenClaim := { program := "ytpajdmhakdbkjaa", sum := "53d9dfbf5f8d08541a64ad56f085eca1a372566ac1575c357adf63efb5131be2", func := "loop.example/g00333/laws.FnExactCanRead", spec := "fnExactCanRead", unfollowed := true, recurses := true, apart := false, narrowed := true }
def FnExactCanReadUptoSaid : Prop := fnExactCanReadUptoRow.holds Try.pinned (OpenSpec.upto fnExactCanReadSpec)

end Rows
end Go.Proofs.Ytpajdmhakdbkjaa
