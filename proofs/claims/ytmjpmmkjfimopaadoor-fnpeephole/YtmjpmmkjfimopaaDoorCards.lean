/-
  DERIVED. GIVEN WITH THE SEED: THE CARDS: each row of YtmjpmmkjfimopaaDoorRows.lean that lists a variable, with what it lists TIED to the program's text (the seventh form; the later family's looks); each row that meets fmt, with fmt's text TOLD by the authors' own Lean function (tested against real Go, not proved from fmt's source: count such statements apart). THE CARD IS WHAT COUNTS. Prove the row's statement (the work); the ties are given (YtmjpmmkjfimopaaDoorTie.lean); close each card by the builder's one call (the guide's Derived/Test/ToyasCard.lean, 'card_holds'). Laid BY PROGRAM, IN A SANDBOX (cutbox-door.mjs). By AI agents, Wed Nov 11 2026. No macro, syntax, notation, axiom, sorry.
-/
import Derived.Test.YtmjpmmkjfimopaaDoorRows
import GoSem.ClaimSeven
namespace Go.Proofs.YtmjpmmkjfimopaaDoor
namespace Rows

/-- THE TIED CARD OF 'laws.FnCompiled'. -/
def fnCompiledCard : Claim7 := { stood := { row := fnCompiledRow, standIns := [], harness := (true, "67e31abd20d8d26e92a6f4aa294af194f7e08c521bf7a99a5495b4c30a53b4b5"), looks := false }, kinds := [], alts := [], laidByText := true, laidKinds := [.data], laidTests := true, laidLooks := .later }
def FnCompiledCardSaid : Prop := Claim7.holds Tryd.pinned (.plain (OpenSpec.ofChange fnCompiledSpec)) fnCompiledCard

/-- THE TIED CARD OF 'laws.FnPeephole'. -/
def fnPeepholeCard : Claim7 := { stood := { row := fnPeepholeRow, standIns := [], harness := (true, "67e31abd20d8d26e92a6f4aa294af194f7e08c521bf7a99a5495b4c30a53b4b5"), looks := false }, kinds := [], alts := [], laidByText := true, laidKinds := [.data], laidTests := true, laidLooks := .later }
def FnPeepholeCardSaid : Prop := Claim7.holds Tryd.pinned (.plain (OpenSpec.ofChange fnPeepholeSpec)) fnPeepholeCard

/-- THE SECOND FORM's CARD OF 'laws.FnCompiled'. -/
def fnCompiledUptoCard : Claim7 := { stood := { row := fnCompiledUptoRow, standIns := [], harness := (true, "67e31abd20d8d26e92a6f4aa294af194f7e08c521bf7a99a5495b4c30a53b4b5"), looks := false }, kinds := [], alts := [], laidByText := true, laidKinds := [.data], laidTests := true, laidLooks := .later }
def FnCompiledUptoCardSaid : Prop := Claim7.holds Tryd.pinned (.plain (OpenSpec.upto fnCompiledSpec)) fnCompiledUptoCard

/-- THE SECOND FORM's CARD OF 'laws.FnPeephole'. -/
def fnPeepholeUptoCard : Claim7 := { stood := { row := fnPeepholeUptoRow, standIns := [], harness := (true, "67e31abd20d8d26e92a6f4aa294af194f7e08c521bf7a99a5495b4c30a53b4b5"), looks := false }, kinds := [], alts := [], laidByText := true, laidKinds := [.data], laidTests := true, laidLooks := .later }
def FnPeepholeUptoCardSaid : Prop := Claim7.holds Tryd.pinned (.plain (OpenSpec.upto fnPeepholeSpec)) fnPeepholeUptoCard
end Rows
end Go.Proofs.YtmjpmmkjfimopaaDoor
