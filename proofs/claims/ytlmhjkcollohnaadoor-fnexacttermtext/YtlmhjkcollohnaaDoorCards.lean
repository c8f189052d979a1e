/-
  DERIVED. GIVEN WITH THE SEED: THE CARDS: each row of YtlmhjkcollohnaaDoorRows.lean that lists a variable, with what it lists TIED to the program's text (the seventh form; the later family's looks); each row that meets fmt, with fmt's text TOLD by the authors' own Lean function (tested against real Go, not proved from fmt's source: count such statements apart). THE CARD IS WHAT COUNTS. Prove the row's statement (the work); the ties are given (YtlmhjkcollohnaaDoorTie.lean); close each card by the builder's one call (the guide's Derived/Test/ToyasCard.lean, 'card_holds'). Laid BY PROGRAM, IN A SANDBOX (cutbox-door.mjs). By AI agents, Wed Nov 11 2026. No macro, syntax, notation, axiom, sorry.
-/
import Derived.Test.YtlmhjkcollohnaaDoorRows
import GoSem.ClaimSeven
namespace Go.Proofs.YtlmhjkcollohnaaDoor
namespace Rows

/-- THE TIED CARD OF 'laws.FnExactApplyTo'. -/
def fnExactApplyToCard : Claim7 := { stood := { row := fnExactApplyToRow, standIns := [], harness := (true, "18605df37e931564441ff9bfd695f324c98ed92244eee41367e571c46bf4e00d"), looks := true }, kinds := [], alts := [], laidByText := true, laidKinds := [.sentinel], laidTests := true, laidLooks := .later }
def FnExactApplyToCardSaid : Prop := Claim7.holds Tryd.pinned (.plain (OpenSpec.ofChange fnExactApplyToSpec)) fnExactApplyToCard

/-- THE TIED CARD OF 'laws.FnExactTermText'. -/
def fnExactTermTextCard : Claim7 := { stood := { row := fnExactTermTextRow, standIns := [], harness := (true, "18605df37e931564441ff9bfd695f324c98ed92244eee41367e571c46bf4e00d"), looks := true }, kinds := [], alts := [], laidByText := true, laidKinds := [.data, .data, .data], laidTests := true, laidLooks := .later }
def FnExactTermTextCardSaid : Prop := Claim7.holds Tryd.pinned (.plain (OpenSpec.ofChange fnExactTermTextSpec)) fnExactTermTextCard

/-- THE TIED CARD OF 'laws.FnExactUnifyTerms'. -/
def fnExactUnifyTermsCard : Claim7 := { stood := { row := fnExactUnifyTermsRow, standIns := [], harness := (true, "18605df37e931564441ff9bfd695f324c98ed92244eee41367e571c46bf4e00d"), looks := true }, kinds := [], alts := [], laidByText := true, laidKinds := [.sentinel, .sentinel], laidTests := true, laidLooks := .later }
def FnExactUnifyTermsCardSaid : Prop := Claim7.holds Tryd.pinned (.plain (OpenSpec.ofChange fnExactUnifyTermsSpec)) fnExactUnifyTermsCard

/-- THE TIED CARD OF 'laws.FnUnify'. -/
def fnUnifyCard : Claim7 := { stood := { row := fnUnifyRow, standIns := [], harness := (true, "18605df37e931564441ff9bfd695f324c98ed92244eee41367e571c46bf4e00d"), looks := true }, kinds := [], alts := [], laidByText := true, laidKinds := [.sentinel, .sentinel], laidTests := true, laidLooks := .later }
def FnUnifyCardSaid : Prop := Claim7.holds Tryd.pinned (.plain (OpenSpec.ofChange fnUnifySpec)) fnUnifyCard

/-- THE TIED CARD OF 'laws.FnTerms'. -/
def fnTermsCard : Claim7 := { stood := { row := fnTermsRow, standIns := [], harness := (true, "18605df37e931564441ff9bfd695f324c98ed92244eee41367e571c46bf4e00d"), looks := true }, kinds := [], alts := [], laidByText := true, laidKinds := [.data, .data, .data, .sentinel], laidTests := true, laidLooks := .later }
def FnTermsCardSaid : Prop := Claim7.holds Tryd.pinned (.plain (OpenSpec.ofChange fnTermsSpec)) fnTermsCard

/-- THE SECOND FORM's CARD OF 'laws.FnExactApplyTo'. -/
def fnExactApplyToUptoCard : Claim7 := { stood := { row := fnExactApplyToUptoRow, standIns := [], harness := (true, "18605df37e931564441ff9bfd695f324c98ed92244eee41367e571c46bf4e00d"), looks := true }, kinds := [], alts := [], laidByText := true, laidKinds := [.sentinel], laidTests := true, laidLooks := .later }
def FnExactApplyToUptoCardSaid : Prop := Claim7.holds Tryd.pinned (.plain (OpenSpec.upto fnExactApplyToSpec)) fnExactApplyToUptoCard

/-- THE SECOND FORM's CARD OF 'laws.FnExactTermText'. -/
def fnExactTermTextUptoCard : Claim7 := { stood := { row := fnExactTermTextUptoRow, standIns := [], harness := (true, "18605df37e931564441ff9bfd695f324c98ed92244eee41367e571c46bf4e00d"), looks := true }, kinds := [], alts := [], laidByText := true, laidKinds := [.data, .data, .data], laidTests := true, laidLooks := .later }
def FnExactTermTextUptoCardSaid : Prop := Claim7.holds Tryd.pinned (.plain (OpenSpec.upto fnExactTermTextSpec)) fnExactTermTextUptoCard

/-- THE SECOND FORM's CARD OF 'laws.FnExactUnifyTerms'. -/
def fnExactUnifyTermsUptoCard : Claim7 := { stood := { row := fnExactUnifyTermsUptoRow, standIns := [], harness := (true, "18605df37e931564441ff9bfd695f324c98ed92244eee41367e571c46bf4e00d"), looks := true }, kinds := [], alts := [], laidByText := true, laidKinds := [.sentinel, .sentinel], laidTests := true, laidLooks := .later }
def FnExactUnifyTermsUptoCardSaid : Prop := Claim7.holds Tryd.pinned (.plain (OpenSpec.upto fnExactUnifyTermsSpec)) fnExactUnifyTermsUptoCard

/-- THE SECOND FORM's CARD OF 'laws.FnUnify'. -/
def fnUnifyUptoCard : Claim7 := { stood := { row := fnUnifyUptoRow, standIns := [], harness := (true, "18605df37e931564441ff9bfd695f324c98ed92244eee41367e571c46bf4e00d"), looks := true }, kinds := [], alts := [], laidByText := true, laidKinds := [.sentinel, .sentinel], laidTests := true, laidLooks := .later }
def FnUnifyUptoCardSaid : Prop := Claim7.holds Tryd.pinned (.plain (OpenSpec.upto fnUnifySpec)) fnUnifyUptoCard

/-- THE SECOND FORM's CARD OF 'laws.FnTerms'. -/
def fnTermsUptoCard : Claim7 := { stood := { row := fnTermsUptoRow, standIns := [], harness := (true, "18605df37e931564441ff9bfd695f324c98ed92244eee41367e571c46bf4e00d"), looks := true }, kinds := [], alts := [], laidByText := true, laidKinds := [.data, .data, .data, .sentinel], laidTests := true, laidLooks := .later }
def FnTermsUptoCardSaid : Prop := Claim7.holds Tryd.pinned (.plain (OpenSpec.upto fnTermsSpec)) fnTermsUptoCard
end Rows
end Go.Proofs.YtlmhjkcollohnaaDoor
