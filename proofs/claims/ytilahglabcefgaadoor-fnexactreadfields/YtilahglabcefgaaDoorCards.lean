/-
  DERIVED. GIVEN WITH THE SEED: THE CARDS: each row of YtilahglabcefgaaDoorRows.lean that lists a variable, with what it lists TIED to the program's text (the seventh form; the later family's looks); each row that meets fmt, with fmt's text TOLD by the authors' own Lean function (tested against real Go, not proved from fmt's source: count such statements apart). THE CARD IS WHAT COUNTS. Prove the row's statement (the work); the ties are given (YtilahglabcefgaaDoorTie.lean); close each card by the builder's one call (the guide's Derived/Test/ToyasCard.lean, 'card_holds'). Laid BY PROGRAM, IN A SANDBOX (cutbox-door.mjs). By AI agents, Wed Nov 11 2026. No macro, syntax, notation, axiom, sorry.
-/
import Derived.Test.YtilahglabcefgaaDoorRows
import GoSem.ClaimSeven
namespace Go.Proofs.YtilahglabcefgaaDoor
namespace Rows

/-- THE TIED CARD OF 'laws.FnExactReadFields'. -/
def fnExactReadFieldsCard : Claim7 := { stood := { row := fnExactReadFieldsRow, standIns := [], harness := (true, "8ac920b1555f1e405e0fe1d9578344011bb43056ac58bbcc56071b3210f972f5"), looks := false }, kinds := [], alts := [], laidByText := true, laidKinds := [.data], laidTests := true, laidLooks := .later }
def FnExactReadFieldsCardSaid : Prop := Claim7.holds Tryd.pinned (.plain (OpenSpec.ofChange fnExactReadFieldsSpec)) fnExactReadFieldsCard

/-- THE TIED CARD OF 'laws.FnExactSortFields'. -/
def fnExactSortFieldsCard : Claim7 := { stood := { row := fnExactSortFieldsRow, standIns := [], harness := (true, "8ac920b1555f1e405e0fe1d9578344011bb43056ac58bbcc56071b3210f972f5"), looks := false }, kinds := [], alts := [], laidByText := true, laidKinds := [.data], laidTests := true, laidLooks := .later }
def FnExactSortFieldsCardSaid : Prop := Claim7.holds Tryd.pinned (.plain (OpenSpec.ofChange fnExactSortFieldsSpec)) fnExactSortFieldsCard

/-- THE SECOND FORM's CARD OF 'laws.FnExactReadFields'. -/
def fnExactReadFieldsUptoCard : Claim7 := { stood := { row := fnExactReadFieldsUptoRow, standIns := [], harness := (true, "8ac920b1555f1e405e0fe1d9578344011bb43056ac58bbcc56071b3210f972f5"), looks := false }, kinds := [], alts := [], laidByText := true, laidKinds := [.data], laidTests := true, laidLooks := .later }
def FnExactReadFieldsUptoCardSaid : Prop := Claim7.holds Tryd.pinned (.plain (OpenSpec.upto fnExactReadFieldsSpec)) fnExactReadFieldsUptoCard

/-- THE SECOND FORM's CARD OF 'laws.FnExactSortFields'. -/
def fnExactSortFieldsUptoCard : Claim7 := { stood := { row := fnExactSortFieldsUptoRow, standIns := [], harness := (true, "8ac920b1555f1e405e0fe1d9578344011bb43056ac58bbcc56071b3210f972f5"), looks := false }, kinds := [], alts := [], laidByText := true, laidKinds := [.data], laidTests := true, laidLooks := .later }
def FnExactSortFieldsUptoCardSaid : Prop := Claim7.holds Tryd.pinned (.plain (OpenSpec.upto fnExactSortFieldsSpec)) fnExactSortFieldsUptoCard
end Rows
end Go.Proofs.YtilahglabcefgaaDoor
