/-
  DERIVED. GIVEN WITH THE SEED: THE CARDS: each row of YtpopjapcgcnnfabDoorRows.lean that lists a variable, with what it lists TIED to the program's text (the seventh form; the later family's looks); each row that meets fmt, with fmt's text TOLD by the authors' own Lean function (tested against real Go, not proved from fmt's source: count such statements apart). THE CARD IS WHAT COUNTS. Prove the row's statement (the work); the ties are given (YtpopjapcgcnnfabDoorTie.lean); close each card by the builder's one call (the guide's Derived/Test/ToyasCard.lean, 'card_holds'). Laid BY PROGRAM, IN A SANDBOX (cutbox-door.mjs). By AI agents, Wed Nov 11 2026. No macro, syntax, notation, axiom, sorry.
-/
import Derived.Test.YtpopjapcgcnnfabDoorRows
import GoSem.ClaimSeven
namespace Go.Proofs.YtpopjapcgcnnfabDoor
namespace Rows

/-- THE TIED CARD OF 'laws.FnCompiled'. -/
def fnCompiledCard : Claim7 := { stood := { row := fnCompiledRow, standIns := [], harness := (true, "09e302f3b1d1e79eedae705c39d5af9f09aca97617099717716a555335e5d72a"), looks := false }, kinds := [], alts := [], laidByText := true, laidKinds := [.data], laidTests := true, laidLooks := .later }
def FnCompiledCardSaid : Prop := Claim7.holds Tryd.pinned (.plain (OpenSpec.ofChange fnCompiledSpec)) fnCompiledCard

/-- THE TIED CARD OF 'laws.FnPeephole'. -/
def fnPeepholeCard : Claim7 := { stood := { row := fnPeepholeRow, standIns := [], harness := (true, "09e302f3b1d1e79eedae705c39d5af9f09aca97617099717716a555335e5d72a"), looks := false }, kinds := [], alts := [], laidByText := true, laidKinds := [.data], laidTests := true, laidLooks := .later }
def FnPeepholeCardSaid : Prop := Claim7.holds Tryd.pinned (.plain (OpenSpec.ofChange fnPeepholeSpec)) fnPeepholeCard

/-- THE TIED CARD OF 'laws.FnFilters'. -/
def fnFiltersCard : Claim7 := { stood := { row := fnFiltersRow, standIns := [], harness := (true, "09e302f3b1d1e79eedae705c39d5af9f09aca97617099717716a555335e5d72a"), looks := false }, kinds := [], alts := [], laidByText := true, laidKinds := [.data], laidTests := true, laidLooks := .later }
def FnFiltersCardSaid : Prop := Claim7.holds Tryd.pinned (.plain (OpenSpec.ofChange fnFiltersSpec)) fnFiltersCard

/-- THE SECOND FORM's CARD OF 'laws.FnCompiled'. -/
def fnCompiledUptoCard : Claim7 := { stood := { row := fnCompiledUptoRow, standIns := [], harness := (true, "09e302f3b1d1e79eedae705c39d5af9f09aca97617099717716a555335e5d72a"), looks := false }, kinds := [], alts := [], laidByText := true, laidKinds := [.data], laidTests := true, laidLooks := .later }
def FnCompiledUptoCardSaid : Prop := Claim7.holds Tryd.pinned (.plain (OpenSpec.upto fnCompiledSpec)) fnCompiledUptoCard

/-- THE SECOND FORM's CARD OF 'laws.FnPeephole'. -/
def fnPeepholeUptoCard : Claim7 := { stood := { row := fnPeepholeUptoRow, standIns := [], harness := (true, "09e302f3b1d1e79eedae705c39d5af9f09aca97617099717716a555335e5d72a"), looks := false }, kinds := [], alts := [], laidByText := true, laidKinds := [.data], laidTests := true, laidLooks := .later }
def FnPeepholeUptoCardSaid : Prop := Claim7.holds Tryd.pinned (.plain (OpenSpec.upto fnPeepholeSpec)) fnPeepholeUptoCard

/-- THE SECOND FORM's CARD OF 'laws.FnFilters'. -/
def fnFiltersUptoCard : Claim7 := { stood := { row := fnFiltersUptoRow, standIns := [], harness := (true, "09e302f3b1d1e79eedae705c39d5af9f09aca97617099717716a555335e5d72a"), looks := false }, kinds := [], alts := [], laidByText := true, laidKinds := [.data], laidTests := true, laidLooks := .later }
def FnFiltersUptoCardSaid : Prop := Claim7.holds Tryd.pinned (.plain (OpenSpec.upto fnFiltersSpec)) fnFiltersUptoCard
end Rows
end Go.Proofs.YtpopjapcgcnnfabDoor
