/-
  No cell of these rows narrows 'for every input' (looked for: loops, veiled, ifaces, maps, wideKeys, modest, calm, conditions, laid).
  DERIVED. THE GIVEN ROWS OF THIS SEAT. 9 by the template 'for every input the law returns true; each argument reads behind the call as it read before'; 0 by the template 'total and deterministic' (their statements: YtfkhbbmnjndmcaaTotals.lean).
  GIVEN WITH THE SEED: the statements are not yours to turn. If you find one false, say at which input.
  Laid BY PROGRAM, IN A SANDBOX (cutbox-rows.mjs): the forced cells as the released guide's own fill.sh prints them over the translation 7c8ad78ffd32e5e8… (all of the seat's roots in one cut). By AI agents, Wed Nov 11 2026. No macro, syntax, notation, axiom, sorry.
-/
import Derived.Test.YtfkhbbmnjndmcaaChecked
import GoSem.Claim
import GoSem.ClaimJoined
import GoSem.ClaimMapViews
import Derived.JoinedTies
import Derived.KernelRfl
namespace Go.Proofs.Ytfkhbbmnjndmcaa
/- THE CELL 'sum', in the pinned program and in every row, IS THE sha256 OF THE DUMP (.gsa) THAT YtfkhbbmnjndmcaaProg.lean LOADS. Nothing in Lean hashes anything: it is a label: what it is worth is what the hold of that sum in a sandbox is worth. -/
noncomputable def Try.pinned : Pinned := { name := "ytfkhbbmnjndmcaa", sum := "7c8ad78ffd32e5e8cc8fffb5b59f6574f3c307f437da82c104293ffd6526d108", checked := Try.checked }
namespace Rows
def none {H : Type} : Left H := { results := [], args := [] }

/-- 'laws.FnExactNewQueue': WHATEVER THE INPUT: true; the input reads as it did. -/
def fnExactNewQueueSpec : ChangeSpec := { name := "fnExactNewQueue", fn := fun _ => fun
  | [d1, d2] => { results := [.lit (.bool true)], args := [d1, d2] }
  | _ => none }
def fnExactNewQueueRow : OpenClaim := { program := "ytfkhbbmnjndmcaa", sum := "7c8ad78ffd32e5e8cc8fffb5b59f6574f3c307f437da82c104293ffd6526d108", func := "loop.example/g00333/laws.FnExactNewQueue", spec := "fnExactNewQueue", apart := false }
def FnExactNewQueueSaid : Prop := fnExactNewQueueRow.holds Try.pinned (OpenSpec.ofChange fnExactNewQueueSpec)

/-- ITS FALSE NEIGHBOUR: 'it returns false'. Refute it at one input. -/
def fnExactNewQueueWrong : ChangeSpec := { name := "fnExactNewQueue", fn := fun _ => fun
  | [d1, d2] => { results := [.lit (.bool false)], args := [d1, d2] }
  | _ => none }
def FnExactNewQueueWrongFalsely : Prop := fnExactNewQueueRow.holds Try.pinned (OpenSpec.ofChange fnExactNewQueueWrong)

/-- 'laws.FnExactGoodQueue': WHATEVER THE INPUT: true; the input reads as it did. -/
def fnExactGoodQueueSpec : ChangeSpec := { name := "fnExactGoodQueue", fn := fun _ => fun
  | [d] => { results := [.lit (.bool true)], args := [d] }
  | _ => none }
def fnExactGoodQueueRow : OpenClaim := { program := "ytfkhbbmnjndmcaa", sum := "7c8ad78ffd32e5e8cc8fffb5b59f6574f3c307f437da82c104293ffd6526d108", func := "loop.example/g00333/laws.FnExactGoodQueue", spec := "fnExactGoodQueue", apart := false }
def FnExactGoodQueueSaid : Prop := fnExactGoodQueueRow.holds Try.pinned (OpenSpec.ofChange fnExactGoodQueueSpec)

/-- ITS FALSE NEIGHBOUR: 'it returns false'. Refute it at one input. -/
def fnExactGoodQueueWrong : ChangeSpec := { name := "fnExactGoodQueue", fn := fun _ => fun
  | [d] => { results := [.lit (.bool false)], args := [d] }
  | _ => none }
def FnExactGoodQueueWrongFalsely : Prop := fnExactGoodQueueRow.holds Try.pinned (OpenSpec.ofChange fnExactGoodQueueWrong)

/-- 'laws.FnExactOffer': WHATEVER THE INPUT: true; the input reads as it did. -/
def fnExactOfferSpec : ChangeSpec := { name := "fnExactOffer", fn := fun _ => fun
  | [d] => { results := [.lit (.bool true)], args := [d] }
  | _ => none }
def fnExactOfferRow : OpenClaim := { program := "ytfkhbbmnjndmcaa", sum := "7c8ad78ffd32e5e8cc8fffb5b59f6574f3c307f437da82c104293ffd6526d108", func := "loop.example/g00333/laws.FnExactOffer", spec := "fnExactOffer", unfollowed := true, recurses := true, apart := false }
def FnExactOfferSaid : Prop := fnExactOfferRow.holds Try.pinned (OpenSpec.ofChange fnExactOfferSpec)

/-- ITS FALSE NEIGHBOUR: 'it returns false'. Refute it at one input. -/
def fnExactOfferWrong : ChangeSpec := { name := "fnExactOffer", fn := fun _ => fun
  | [d] => { results := [.lit (.bool false)], args := [d] }
  | _ => none }
def FnExactOfferWrongFalsely : Prop := fnExactOfferRow.holds Try.pinned (OpenSpec.ofChange fnExactOfferWrong)

/-- 'laws.FnExactHand': WHATEVER THE INPUT: true; the input reads as it did. -/
def fnExactHandSpec : ChangeSpec := { name := "fnExactHand", fn := fun _ => fun
  | [d] => { results := [.lit (.bool true)], args := [d] }
  | _ => none }
def fnExactHandRow : OpenClaim := { program := "ytfkhbbmnjndmcaa", sum := "7c8ad78ffd32e5e8cc8fffb5b59f6574f3c307f437da82c104293ffd6526d108", func := "loop.example/g00333/laws.FnExactHand", spec := "fnExactHand", unfollowed := true, recurses := true, apart := false }
def FnExactHandSaid : Prop := fnExactHandRow.holds Try.pinned (OpenSpec.ofChange fnExactHandSpec)

/-- ITS FALSE NEIGHBOUR: 'it returns false'. Refute it at one input. -/
def fnExactHandWrong : ChangeSpec := { name := "fnExactHand", fn := fun _ => fun
  | [d] => { results := [.lit (.bool false)], args := [d] }
  | _ => none }
def FnExactHandWrongFalsely : Prop := fnExactHandRow.holds Try.pinned (OpenSpec.ofChange fnExactHandWrong)

/-- 'laws.FnExactPlayQueue': WHATEVER THE INPUT: true; the input reads as it did. -/
def fnExactPlayQueueSpec : ChangeSpec := { name := "fnExactPlayQueue", fn := fun _ => fun
  | [d1, d2, d3] => { results := [.lit (.bool true)], args := [d1, d2, d3] }
  | _ => none }
def fnExactPlayQueueRow : OpenClaim := { program := "ytfkhbbmnjndmcaa", sum := "7c8ad78ffd32e5e8cc8fffb5b59f6574f3c307f437da82c104293ffd6526d108", func := "loop.example/g00333/laws.FnExactPlayQueue", spec := "fnExactPlayQueue", unfollowed := true, recurses := true, apart := false }
def FnExactPlayQueueSaid : Prop := fnExactPlayQueueRow.holds Try.pinned (OpenSpec.ofChange fnExactPlayQueueSpec)

/-- ITS FALSE NEIGHBOUR: 'it returns false'. Refute it at one input. -/
def fnExactPlayQueueWrong : ChangeSpec := { name := "fnExactPlayQueue", fn := fun _ => fun
  | [d1, d2, d3] => { results := [.lit (.bool false)], args := [d1, d2, d3] }
  | _ => none }
def FnExactPlayQueueWrongFalsely : Prop := fnExactPlayQueueRow.holds Try.pinned (OpenSpec.ofChange fnExactPlayQueueWrong)

/-- 'laws.FnExactWhereIs': WHATEVER THE INPUT: true; the input reads as it did. -/
def fnExactWhereIsSpec : ChangeSpec := { name := "fnExactWhereIs", fn := fun _ => fun
  | [d1, d2] => { results := [.lit (.bool true)], args := [d1, d2] }
  | _ => none }
def fnExactWhereIsRow : OpenClaim := { program := "ytfkhbbmnjndmcaa", sum := "7c8ad78ffd32e5e8cc8fffb5b59f6574f3c307f437da82c104293ffd6526d108", func := "loop.example/g00333/laws.FnExactWhereIs", spec := "fnExactWhereIs", apart := false }
def FnExactWhereIsSaid : Prop := fnExactWhereIsRow.holds Try.pinned (OpenSpec.ofChange fnExactWhereIsSpec)

/-- ITS FALSE NEIGHBOUR: 'it returns false'. Refute it at one input. -/
def fnExactWhereIsWrong : ChangeSpec := { name := "fnExactWhereIs", fn := fun _ => fun
  | [d1, d2] => { results := [.lit (.bool false)], args := [d1, d2] }
  | _ => none }
def FnExactWhereIsWrongFalsely : Prop := fnExactWhereIsRow.holds Try.pinned (OpenSpec.ofChange fnExactWhereIsWrong)

/-- 'laws.FnExactGapsIn': WHATEVER THE INPUT: true; the input reads as it did. -/
def fnExactGapsInSpec : ChangeSpec := { name := "fnExactGapsIn", fn := fun _ => fun
  | [d] => { results := [.lit (.bool true)], args := [d] }
  | _ => none }
def fnExactGapsInRow : OpenClaim := { program := "ytfkhbbmnjndmcaa", sum := "7c8ad78ffd32e5e8cc8fffb5b59f6574f3c307f437da82c104293ffd6526d108", func := "loop.example/g00333/laws.FnExactGapsIn", spec := "fnExactGapsIn", apart := false }
def FnExactGapsInSaid : Prop := fnExactGapsInRow.holds Try.pinned (OpenSpec.ofChange fnExactGapsInSpec)

/-- ITS FALSE NEIGHBOUR: 'it returns false'. Refute it at one input. -/
def fnExactGapsInWrong : ChangeSpec := { name := "fnExactGapsIn", fn := fun _ => fun
  | [d] => { results := [.lit (.bool false)], args := [d] }
  | _ => none }
def FnExactGapsInWrongFalsely : Prop := fnExactGapsInRow.holds Try.pinned (OpenSpec.ofChange fnExactGapsInWrong)

/-- 'laws.FnQueue': WHATEVER THE INPUT: true; the input reads as it did. -/
def fnQueueSpec : ChangeSpec := { name := "fnQueue", fn := fun _ => fun
  | [d] => { results := [.lit (.bool true)], args := [d] }
  | _ => none }
def fnQueueRow : OpenClaim := { program := "ytfkhbbmnjndmcaa", sum := "7c8ad78ffd32e5e8cc8fffb5b59f6574f3c307f437da82c104293ffd6526d108", func := "loop.example/g00333/laws.FnQueue", spec := "fnQueue", unfollowed := true, recurses := true, apart := false }
def FnQueueSaid : Prop := fnQueueRow.holds Try.pinned (OpenSpec.ofChange fnQueueSpec)

/-- ITS FALSE NEIGHBOUR: 'it returns false'. Refute it at one input. -/
def fnQueueWrong : ChangeSpec := { name := "fnQueue", fn := fun _ => fun
  | [d] => { results := [.lit (.bool false)], args := [d] }
  | _ => none }
def FnQueueWrongFalsely : Prop := fnQueueRow.holds Try.pinned (OpenSpec.ofChange fnQueueWrong)

/-- 'laws.FnOffers': WHATEVER THE INPUT: true; the input reads as it did. -/
def fnOffersSpec : ChangeSpec := { name := "fnOffers", fn := fun _ => fun
  | [d1, d2] => { results := [.lit (.bool true)], args := [d1, d2] }
  | _ => none }
def fnOffersRow : OpenClaim := { program := "ytfkhbbmnjndmcaa", sum := "7c8ad78ffd32e5e8cc8fffb5b59f6574f3c307f437da82c104293ffd6526d108", func := "loop.example/g00333/laws.FnOffers", spec := "fnOffers", unfollowed := true, recurses := true, apart := false }
def FnOffersSaid : Prop := fnOffersRow.holds Try.pinned (OpenSpec.ofChange fnOffersSpec)

/-- ITS FALSE NEIGHBOUR: 'it returns false'. Refute it at one input. -/
def fnOffersWrong : ChangeSpec := { name := "fnOffers", fn := fun _ => fun
  | [d1, d2] => { results := [.lit (.bool false)], args := [d1, d2] }
  | _ => none }
def FnOffersWrongFalsely : Prop := fnOffersRow.holds Try.pinned (OpenSpec.ofChange fnOffersWrong)

/- THE SECOND FORM. 'bulk': how many values and letters a reading holds, each counted each time it is reached (what is shared counts as often as it is met; a slice's spare places count too). A statement '..UptoSaid' is the law's where the arguments, and the package variables that the reading takes, are together of bulk at most 1048576: NARROWER than '..Said'. Prove '..Said' where nothing that the law and all that it calls make is longer than what came in: it says more and counts as full. Else prove '..UptoSaid'. A law counts once. -/
mutual
def uptoBulk {H : Type} : DataW H → Nat
  | .lit (.string bytes) => bytes.length + 1
  | .lit _ => 1
  | .nil => 1
  | .ptr d => uptoBulk d + 1
  | .slice elems spare => uptoBulkAll elems + uptoBulkAll spare + 1
  | .agg parts => uptoBulkAll parts + 1
  | .iface _ d => uptoBulk d + 1
  | .map entries => uptoBulkEntries entries + 1
  | .held _ => 1
def uptoBulkAll {H : Type} : List (DataW H) → Nat
  | [] => 0
  | d :: r => uptoBulk d + uptoBulkAll r
def uptoBulkEntries {H : Type} : List (Lit × DataW H) → Nat
  | [] => 0
  | x :: r => uptoBulkEntry x + uptoBulkEntries r
def uptoBulkEntry {H : Type} : Lit × DataW H → Nat
  | (.string bytes, d) => bytes.length + uptoBulk d + 1
  | (_, d) => uptoBulk d + 1
 end
def uptoSmall : (H : Type) → List (DataW H) → Bool := fun _ ds => decide (uptoBulkAll ds ≤ 1048576)
def OpenSpec.upto (s : _root_.Go.ChangeSpec) : _root_.Go.OpenSpec := { _root_.Go.OpenSpec.ofChange s with cond := some uptoSmall }

/-- 'laws.FnExactNewQueue', WHERE WHAT IT READS IS OF BULK AT MOST 1048576: true; the input reads as it did. -/
def fnExactNewQueueUptoRow : OpenClaim := { program := "ytfkhbbmnjndmcaa", sum := "7c8ad78ffd32e5e8cc8fffb5b59f6574f3c307f437da82c104293ffd6526d108", func := "loop.example/g00333/laws.FnExactNewQueue", spec := "fnExactNewQueue", apart := false, narrowed := true }
def FnExactNewQueueUptoSaid : Prop := fnExactNewQueueUptoRow.holds Try.pinned (OpenSpec.upto fnExactNewQueueSpec)

/-- 'laws.FnExactGoodQueue', WHERE WHAT IT READS IS OF BULK AT MOST 1048576: true; the input reads as it did. -/
def fnExactGoodQueueUptoRow : OpenClaim := { program := "ytfkhbbmnjndmcaa", sum := "7c8ad78ffd32e5e8cc8fffb5b59f6574f3c307f437da82c104293ffd6526d108", func := "loop.example/g00333/laws.FnExactGoodQueue", spec := "fnExactGoodQueue", apart := false, narrowed := true }
def FnExactGoodQueueUptoSaid : Prop := fnExactGoodQueueUptoRow.holds Try.pinned (OpenSpec.upto fnExactGoodQueueSpec)

/-- 'laws.FnExactOffer', WHERE WHAT IT READS IS OF BULK AT MOST 1048576: true; the input reads as it did. -/
def fnExactOfferUptoRow : OpenClaim := { program := "ytfkhbbmnjndmcaa", sum := "7c8ad78ffd32e5e8cc8fffb5b59f6574f3c307f437da82c104293ffd6526d108", func := "loop.example/g00333/laws.FnExactOffer", spec := "fnExactOffer", unfollowed := true, recurses := true, apart := false, narrowed := true }
def FnExactOfferUptoSaid : Prop := fnExactOfferUptoRow.holds Try.pinned (OpenSpec.upto fnExactOfferSpec)

/-- 'laws.FnExactHand', WHERE WHAT IT READS IS OF BULK AT MOST 1048576: true; the input reads as it did. -/
def fnExactHandUptoRow : OpenClaim := { program := "ytfkhbbmnjndmcaa", sum := "7c8ad78ffd32e5e8cc8fffb5b59f6574f3c307f437da82c104293ffd6526d108", func := "loop.example/g00333/laws.FnExactHand", spec := "fnExactHand", unfollowed := true, recurses := true, apart := false, narrowed := true }
def FnExactHandUptoSaid : Prop := fnExactHandUptoRow.holds Try.pinned (OpenSpec.upto fnExactHandSpec)

/-- 'laws.FnExactPlayQueue', WHERE WHAT IT READS IS OF BULK AT MOST 1048576: true; the input reads as it did. -/
def fnExactPlayQueueUptoRow : OpenClaim := { program := "ytfkhbbmnjndmcaa", sum := "7c8ad78ffd32e5e8cc8fffb5b59f6574f3c307f437da82c104293ffd6526d108", func := "loop.example/g00333/laws.FnExactPlayQueue", spec := "fnExactPlayQueue", unfollowed := true, recurses := true, apart := false, narrowed := true }
def FnExactPlayQueueUptoSaid : Prop := fnExactPlayQueueUptoRow.holds Try.pinned (OpenSpec.upto fnExactPlayQueueSpec)

/-- 'laws.FnExactWhereIs', WHERE WHAT IT READS IS OF BULK AT MOST 1048576: true; the input reads as it did. -/
def fnExactWhereIsUptoRow : OpenClaim := { program := "ytfkhbbmnjndmcaa", sum := "7c8ad78ffd32e5e8cc8fffb5b59f6574f3c307f437da82c104293ffd6526d108", func := "loop.example/g00333/laws.FnExactWhereIs", spec := "fnExactWhereIs", apart := false, narrowed := true }
def FnExactWhereIsUptoSaid : Prop := fnExactWhereIsUptoRow.holds Try.pinned (OpenSpec.upto fnExactWhereIsSpec)

/-- 'laws.FnExactGapsIn', WHERE WHAT IT READS IS OF BULK AT MOST 1048576: true; the input reads as it did. -/
def fnExactGapsInUptoRow : OpenClaim := { program := "ytfkhbbmnjndmcaa", sum := "7c8ad78ffd32e5e8cc8fffb5b59f6574f3c307f437da82c104293ffd6526d108", func := "loop.example/g00333/laws.FnExactGapsIn", spec := "fnExactGapsIn", apart := false, narrowed := true }
def FnExactGapsInUptoSaid : Prop := fnExactGapsInUptoRow.holds Try.pinned (OpenSpec.upto fnExactGapsInSpec)

/-- 'laws.FnQueue', WHERE WHAT IT READS IS OF BULK AT MOST 1048576: true; the input reads as it did. -/
def fnQueueUptoRow : OpenClaim := { program := "ytfkhbbmnjndmcaa", sum := "7c8ad78ffd32e5e8cc8fffb5b59f6574f3c307f437da82c104293ffd6526d108", func := "loop.example/g00333/laws.FnQueue", spec := "fnQueue", unfollowed := true, recurses := true, apart := false, narrowed := true }
def FnQueueUptoSaid : Prop := fnQueueUptoRow.holds Try.pinned (OpenSpec.upto fnQueueSpec)

/-- 'laws.FnOffers', WHERE WHAT IT READS IS OF BULK AT MOST 1048576: true; the input reads as it did. -/
def fnOffersUptoRow : OpenClaim := { program := "ytfkhbbmnjndmcaa", sum := "7c8ad78ffd32e5e8cc8fffb5b59f6574f3c307f437da82c104293ffd6526d108", func := "loop.example/g00333/laws.FnOffers", spec := "fnOffers", unfollowed := true, recurses := true, apart := false, narrowed := true }
def FnOffersUptoSaid : Prop := fnOffersUptoRow.holds Try.pinned (OpenSpec.upto fnOffersSpec)

end Rows
end Go.Proofs.Ytfkhbbmnjndmcaa
