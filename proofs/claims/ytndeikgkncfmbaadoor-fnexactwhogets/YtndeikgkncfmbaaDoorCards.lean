/-
  DERIVED. GIVEN WITH THE SEED: THE CARDS: each row of YtndeikgkncfmbaaDoorRows.lean that lists a variable, with what it lists TIED to the program's text (the seventh form; the later family's looks); each row that meets fmt, with fmt's text TOLD by the authors' own Lean function (tested against real Go, not proved from fmt's source: count such statements apart). THE CARD IS WHAT COUNTS. Prove the row's statement (the work); the ties are given (YtndeikgkncfmbaaDoorTie.lean); close each card by the builder's one call (the guide's Derived/Test/ToyasCard.lean, 'card_holds'). Laid BY PROGRAM, IN A SANDBOX (cutbox-door.mjs). By AI agents, Wed Nov 11 2026. No macro, syntax, notation, axiom, sorry.
-/
import Derived.Test.YtndeikgkncfmbaaDoorRows
import GoSem.ClaimSeven
namespace Go.Proofs.YtndeikgkncfmbaaDoor
namespace Rows

/-- THE TIED CARD OF 'laws.FnExactGoodTopic'. -/
def fnExactGoodTopicCard : Claim7 := { stood := { row := fnExactGoodTopicRow, standIns := [], harness := (true, "cb93f3b678ce53cbd2a447f484e5365622604ed124a3c4e0f7cb768b62cc9a5b"), looks := false }, kinds := [], alts := [], laidByText := true, laidKinds := [.data, .pinned], laidTests := true, laidLooks := .later }
def FnExactGoodTopicCardSaid : Prop := Claim7.holds Tryd.pinned (.plain (OpenSpec.ofChange fnExactGoodTopicSpec)) fnExactGoodTopicCard

/-- THE TIED CARD OF 'laws.FnExactGoodPattern'. -/
def fnExactGoodPatternCard : Claim7 := { stood := { row := fnExactGoodPatternRow, standIns := [], harness := (true, "cb93f3b678ce53cbd2a447f484e5365622604ed124a3c4e0f7cb768b62cc9a5b"), looks := false }, kinds := [], alts := [], laidByText := true, laidKinds := [.data, .pinned], laidTests := true, laidLooks := .later }
def FnExactGoodPatternCardSaid : Prop := Claim7.holds Tryd.pinned (.plain (OpenSpec.ofChange fnExactGoodPatternSpec)) fnExactGoodPatternCard

/-- THE TIED CARD OF 'laws.FnExactTopicFits'. -/
def fnExactTopicFitsCard : Claim7 := { stood := { row := fnExactTopicFitsRow, standIns := [], harness := (true, "cb93f3b678ce53cbd2a447f484e5365622604ed124a3c4e0f7cb768b62cc9a5b"), looks := false }, kinds := [], alts := [], laidByText := true, laidKinds := [.data, .pinned], laidTests := true, laidLooks := .later }
def FnExactTopicFitsCardSaid : Prop := Claim7.holds Tryd.pinned (.plain (OpenSpec.ofChange fnExactTopicFitsSpec)) fnExactTopicFitsCard

/-- THE TIED CARD OF 'laws.FnExactPatternCovers'. -/
def fnExactPatternCoversCard : Claim7 := { stood := { row := fnExactPatternCoversRow, standIns := [], harness := (true, "cb93f3b678ce53cbd2a447f484e5365622604ed124a3c4e0f7cb768b62cc9a5b"), looks := false }, kinds := [], alts := [], laidByText := true, laidKinds := [.data, .pinned], laidTests := true, laidLooks := .later }
def FnExactPatternCoversCardSaid : Prop := Claim7.holds Tryd.pinned (.plain (OpenSpec.ofChange fnExactPatternCoversSpec)) fnExactPatternCoversCard

/-- THE TIED CARD OF 'laws.FnExactPatternsMeet'. -/
def fnExactPatternsMeetCard : Claim7 := { stood := { row := fnExactPatternsMeetRow, standIns := [], harness := (true, "cb93f3b678ce53cbd2a447f484e5365622604ed124a3c4e0f7cb768b62cc9a5b"), looks := false }, kinds := [], alts := [], laidByText := true, laidKinds := [.data, .pinned], laidTests := true, laidLooks := .later }
def FnExactPatternsMeetCardSaid : Prop := Claim7.holds Tryd.pinned (.plain (OpenSpec.ofChange fnExactPatternsMeetSpec)) fnExactPatternsMeetCard

/-- THE TIED CARD OF 'laws.FnTopics'. -/
def fnTopicsCard : Claim7 := { stood := { row := fnTopicsRow, standIns := [], harness := (true, "cb93f3b678ce53cbd2a447f484e5365622604ed124a3c4e0f7cb768b62cc9a5b"), looks := false }, kinds := [], alts := [], laidByText := true, laidKinds := [.data, .pinned], laidTests := true, laidLooks := .later }
def FnTopicsCardSaid : Prop := Claim7.holds Tryd.pinned (.plain (OpenSpec.ofChange fnTopicsSpec)) fnTopicsCard

/-- THE TIED CARD OF 'laws.FnExactBuildTrie'. -/
def fnExactBuildTrieCard : Claim7 := { stood := { row := fnExactBuildTrieRow, standIns := [], harness := (true, "cb93f3b678ce53cbd2a447f484e5365622604ed124a3c4e0f7cb768b62cc9a5b"), looks := false }, kinds := [], alts := [], laidByText := true, laidKinds := [.data, .pinned], laidTests := true, laidLooks := .later }
def FnExactBuildTrieCardSaid : Prop := Claim7.holds Tryd.pinned (.plain (OpenSpec.ofChange fnExactBuildTrieSpec)) fnExactBuildTrieCard

/-- THE TIED CARD OF 'laws.FnExactWhoGets'. -/
def fnExactWhoGetsCard : Claim7 := { stood := { row := fnExactWhoGetsRow, standIns := [], harness := (true, "cb93f3b678ce53cbd2a447f484e5365622604ed124a3c4e0f7cb768b62cc9a5b"), looks := false }, kinds := [], alts := [], laidByText := true, laidKinds := [.data, .pinned], laidTests := true, laidLooks := .later }
def FnExactWhoGetsCardSaid : Prop := Claim7.holds Tryd.pinned (.plain (OpenSpec.ofChange fnExactWhoGetsSpec)) fnExactWhoGetsCard

/-- THE SECOND FORM's CARD OF 'laws.FnExactGoodTopic'. -/
def fnExactGoodTopicUptoCard : Claim7 := { stood := { row := fnExactGoodTopicUptoRow, standIns := [], harness := (true, "cb93f3b678ce53cbd2a447f484e5365622604ed124a3c4e0f7cb768b62cc9a5b"), looks := false }, kinds := [], alts := [], laidByText := true, laidKinds := [.data, .pinned], laidTests := true, laidLooks := .later }
def FnExactGoodTopicUptoCardSaid : Prop := Claim7.holds Tryd.pinned (.plain (OpenSpec.upto fnExactGoodTopicSpec)) fnExactGoodTopicUptoCard

/-- THE SECOND FORM's CARD OF 'laws.FnExactGoodPattern'. -/
def fnExactGoodPatternUptoCard : Claim7 := { stood := { row := fnExactGoodPatternUptoRow, standIns := [], harness := (true, "cb93f3b678ce53cbd2a447f484e5365622604ed124a3c4e0f7cb768b62cc9a5b"), looks := false }, kinds := [], alts := [], laidByText := true, laidKinds := [.data, .pinned], laidTests := true, laidLooks := .later }
def FnExactGoodPatternUptoCardSaid : Prop := Claim7.holds Tryd.pinned (.plain (OpenSpec.upto fnExactGoodPatternSpec)) fnExactGoodPatternUptoCard

/-- THE SECOND FORM's CARD OF 'laws.FnExactTopicFits'. -/
def fnExactTopicFitsUptoCard : Claim7 := { stood := { row := fnExactTopicFitsUptoRow, standIns := [], harness := (true, "cb93f3b678ce53cbd2a447f484e5365622604ed124a3c4e0f7cb768b62cc9a5b"), looks := false }, kinds := [], alts := [], laidByText := true, laidKinds := [.data, .pinned], laidTests := true, laidLooks := .later }
def FnExactTopicFitsUptoCardSaid : Prop := Claim7.holds Tryd.pinned (.plain (OpenSpec.upto fnExactTopicFitsSpec)) fnExactTopicFitsUptoCard

/-- THE SECOND FORM's CARD OF 'laws.FnExactPatternCovers'. -/
def fnExactPatternCoversUptoCard : Claim7 := { stood := { row := fnExactPatternCoversUptoRow, standIns := [], harness := (true, "cb93f3b678ce53cbd2a447f484e5365622604ed124a3c4e0f7cb768b62cc9a5b"), looks := false }, kinds := [], alts := [], laidByText := true, laidKinds := [.data, .pinned], laidTests := true, laidLooks := .later }
def FnExactPatternCoversUptoCardSaid : Prop := Claim7.holds Tryd.pinned (.plain (OpenSpec.upto fnExactPatternCoversSpec)) fnExactPatternCoversUptoCard

/-- THE SECOND FORM's CARD OF 'laws.FnExactPatternsMeet'. -/
def fnExactPatternsMeetUptoCard : Claim7 := { stood := { row := fnExactPatternsMeetUptoRow, standIns := [], harness := (true, "cb93f3b678ce53cbd2a447f484e5365622604ed124a3c4e0f7cb768b62cc9a5b"), looks := false }, kinds := [], alts := [], laidByText := true, laidKinds := [.data, .pinned], laidTests := true, laidLooks := .later }
def FnExactPatternsMeetUptoCardSaid : Prop := Claim7.holds Tryd.pinned (.plain (OpenSpec.upto fnExactPatternsMeetSpec)) fnExactPatternsMeetUptoCard

/-- THE SECOND FORM's CARD OF 'laws.FnTopics'. -/
def fnTopicsUptoCard : Claim7 := { stood := { row := fnTopicsUptoRow, standIns := [], harness := (true, "cb93f3b678ce53cbd2a447f484e5365622604ed124a3c4e0f7cb768b62cc9a5b"), looks := false }, kinds := [], alts := [], laidByText := true, laidKinds := [.data, .pinned], laidTests := true, laidLooks := .later }
def FnTopicsUptoCardSaid : Prop := Claim7.holds Tryd.pinned (.plain (OpenSpec.upto fnTopicsSpec)) fnTopicsUptoCard

/-- THE SECOND FORM's CARD OF 'laws.FnExactBuildTrie'. -/
def fnExactBuildTrieUptoCard : Claim7 := { stood := { row := fnExactBuildTrieUptoRow, standIns := [], harness := (true, "cb93f3b678ce53cbd2a447f484e5365622604ed124a3c4e0f7cb768b62cc9a5b"), looks := false }, kinds := [], alts := [], laidByText := true, laidKinds := [.data, .pinned], laidTests := true, laidLooks := .later }
def FnExactBuildTrieUptoCardSaid : Prop := Claim7.holds Tryd.pinned (.plain (OpenSpec.upto fnExactBuildTrieSpec)) fnExactBuildTrieUptoCard

/-- THE SECOND FORM's CARD OF 'laws.FnExactWhoGets'. -/
def fnExactWhoGetsUptoCard : Claim7 := { stood := { row := fnExactWhoGetsUptoRow, standIns := [], harness := (true, "cb93f3b678ce53cbd2a447f484e5365622604ed124a3c4e0f7cb768b62cc9a5b"), looks := false }, kinds := [], alts := [], laidByText := true, laidKinds := [.data, .pinned], laidTests := true, laidLooks := .later }
def FnExactWhoGetsUptoCardSaid : Prop := Claim7.holds Tryd.pinned (.plain (OpenSpec.upto fnExactWhoGetsSpec)) fnExactWhoGetsUptoCard
end Rows
end Go.Proofs.YtndeikgkncfmbaaDoor
