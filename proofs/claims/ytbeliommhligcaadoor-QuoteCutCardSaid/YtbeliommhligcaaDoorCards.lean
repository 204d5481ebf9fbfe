/-
  DERIVED. GIVEN WITH THE SEED: THE CARDS: each row of YtbeliommhligcaaDoorRows.lean that lists a variable, with what it lists TIED to the program's text (the seventh form; the later family's looks); each row that meets fmt, with fmt's text TOLD by the authors' own Lean function (tested against real Go, not proved from fmt's source: count such statements apart). THE CARD IS WHAT COUNTS. Prove the row's statement (the work); the ties are given (YtbeliommhligcaaDoorTie.lean); close each card by the builder's one call (the guide's Derived/Test/ToyasCard.lean, 'card_holds'). Laid BY PROGRAM, IN A SANDBOX (cutbox-door.mjs). By AI agents, Wed Nov 11 2026. No macro, syntax, notation, axiom, sorry.
-/
import Derived.Test.YtbeliommhligcaaDoorRows
import GoSem.ClaimSeven
namespace Go.Proofs.YtbeliommhligcaaDoor
namespace Rows

/-- THE TIED CARD OF 'legatelaw05.QuoteWrites'. -/
def quoteWritesCard : Claim7 := { stood := { row := quoteWritesRow, standIns := [], harness := (true, "2d150b8ea57e1e44860a8d33d11d0347af57887b1a83191b1fbab738197a91da"), looks := false }, kinds := [], alts := [], laidByText := true, laidKinds := [.data], laidTests := true, laidLooks := .later }
def QuoteWritesCardSaid : Prop := Claim7.holds Tryd.pinned (.plain (OpenSpec.ofChange quoteWritesSpec)) quoteWritesCard

/-- THE TIED CARD OF 'legatelaw05.QuoteBack'. -/
def quoteBackCard : Claim7 := { stood := { row := quoteBackRow, standIns := [], harness := (true, "2d150b8ea57e1e44860a8d33d11d0347af57887b1a83191b1fbab738197a91da"), looks := false }, kinds := [], alts := [], laidByText := true, laidKinds := [.data], laidTests := true, laidLooks := .later }
def QuoteBackCardSaid : Prop := Claim7.holds Tryd.pinned (.plain (OpenSpec.ofChange quoteBackSpec)) quoteBackCard

/-- THE TIED CARD OF 'legatelaw05.QuoteUnlike'. -/
def quoteUnlikeCard : Claim7 := { stood := { row := quoteUnlikeRow, standIns := [], harness := (true, "2d150b8ea57e1e44860a8d33d11d0347af57887b1a83191b1fbab738197a91da"), looks := false }, kinds := [], alts := [], laidByText := true, laidKinds := [.data], laidTests := true, laidLooks := .later }
def QuoteUnlikeCardSaid : Prop := Claim7.holds Tryd.pinned (.plain (OpenSpec.ofChange quoteUnlikeSpec)) quoteUnlikeCard

/-- THE TIED CARD OF 'legatelaw05.QuoteEscapes'. -/
def quoteEscapesCard : Claim7 := { stood := { row := quoteEscapesRow, standIns := [], harness := (true, "2d150b8ea57e1e44860a8d33d11d0347af57887b1a83191b1fbab738197a91da"), looks := false }, kinds := [], alts := [], laidByText := true, laidKinds := [.data], laidTests := true, laidLooks := .later }
def QuoteEscapesCardSaid : Prop := Claim7.holds Tryd.pinned (.plain (OpenSpec.ofChange quoteEscapesSpec)) quoteEscapesCard

/-- THE TIED CARD OF 'legatelaw05.QuoteWithin'. -/
def quoteWithinCard : Claim7 := { stood := { row := quoteWithinRow, standIns := [], harness := (true, "2d150b8ea57e1e44860a8d33d11d0347af57887b1a83191b1fbab738197a91da"), looks := false }, kinds := [], alts := [], laidByText := true, laidKinds := [.data], laidTests := true, laidLooks := .later }
def QuoteWithinCardSaid : Prop := Claim7.holds Tryd.pinned (.plain (OpenSpec.ofChange quoteWithinSpec)) quoteWithinCard

/-- THE TIED CARD OF 'legatelaw05.QuoteCut'. -/
def quoteCutCard : Claim7 := { stood := { row := quoteCutRow, standIns := [], harness := (true, "2d150b8ea57e1e44860a8d33d11d0347af57887b1a83191b1fbab738197a91da"), looks := false }, kinds := [], alts := [], laidByText := true, laidKinds := [.data], laidTests := true, laidLooks := .later }
def QuoteCutCardSaid : Prop := Claim7.holds Tryd.pinned (.plain (OpenSpec.ofChange quoteCutSpec)) quoteCutCard

/-- THE SECOND FORM's CARD OF 'legatelaw05.QuoteWrites'. -/
def quoteWritesUptoCard : Claim7 := { stood := { row := quoteWritesUptoRow, standIns := [], harness := (true, "2d150b8ea57e1e44860a8d33d11d0347af57887b1a83191b1fbab738197a91da"), looks := false }, kinds := [], alts := [], laidByText := true, laidKinds := [.data], laidTests := true, laidLooks := .later }
def QuoteWritesUptoCardSaid : Prop := Claim7.holds Tryd.pinned (.plain (OpenSpec.upto quoteWritesSpec)) quoteWritesUptoCard

/-- THE SECOND FORM's CARD OF 'legatelaw05.QuoteBack'. -/
def quoteBackUptoCard : Claim7 := { stood := { row := quoteBackUptoRow, standIns := [], harness := (true, "2d150b8ea57e1e44860a8d33d11d0347af57887b1a83191b1fbab738197a91da"), looks := false }, kinds := [], alts := [], laidByText := true, laidKinds := [.data], laidTests := true, laidLooks := .later }
def QuoteBackUptoCardSaid : Prop := Claim7.holds Tryd.pinned (.plain (OpenSpec.upto quoteBackSpec)) quoteBackUptoCard

/-- THE SECOND FORM's CARD OF 'legatelaw05.QuoteUnlike'. -/
def quoteUnlikeUptoCard : Claim7 := { stood := { row := quoteUnlikeUptoRow, standIns := [], harness := (true, "2d150b8ea57e1e44860a8d33d11d0347af57887b1a83191b1fbab738197a91da"), looks := false }, kinds := [], alts := [], laidByText := true, laidKinds := [.data], laidTests := true, laidLooks := .later }
def QuoteUnlikeUptoCardSaid : Prop := Claim7.holds Tryd.pinned (.plain (OpenSpec.upto quoteUnlikeSpec)) quoteUnlikeUptoCard

/-- THE SECOND FORM's CARD OF 'legatelaw05.QuoteEscapes'. -/
def quoteEscapesUptoCard : Claim7 := { stood := { row := quoteEscapesUptoRow, standIns := [], harness := (true, "2d150b8ea57e1e44860a8d33d11d0347af57887b1a83191b1fbab738197a91da"), looks := false }, kinds := [], alts := [], laidByText := true, laidKinds := [.data], laidTests := true, laidLooks := .later }
def QuoteEscapesUptoCardSaid : Prop := Claim7.holds Tryd.pinned (.plain (OpenSpec.upto quoteEscapesSpec)) quoteEscapesUptoCard

/-- THE SECOND FORM's CARD OF 'legatelaw05.QuoteWithin'. -/
def quoteWithinUptoCard : Claim7 := { stood := { row := quoteWithinUptoRow, standIns := [], harness := (true, "2d150b8ea57e1e44860a8d33d11d0347af57887b1a83191b1fbab738197a91da"), looks := false }, kinds := [], alts := [], laidByText := true, laidKinds := [.data], laidTests := true, laidLooks := .later }
def QuoteWithinUptoCardSaid : Prop := Claim7.holds Tryd.pinned (.plain (OpenSpec.upto quoteWithinSpec)) quoteWithinUptoCard

/-- THE SECOND FORM's CARD OF 'legatelaw05.QuoteCut'. -/
def quoteCutUptoCard : Claim7 := { stood := { row := quoteCutUptoRow, standIns := [], harness := (true, "2d150b8ea57e1e44860a8d33d11d0347af57887b1a83191b1fbab738197a91da"), looks := false }, kinds := [], alts := [], laidByText := true, laidKinds := [.data], laidTests := true, laidLooks := .later }
def QuoteCutUptoCardSaid : Prop := Claim7.holds Tryd.pinned (.plain (OpenSpec.upto quoteCutSpec)) quoteCutUptoCard
end Rows
end Go.Proofs.YtbeliommhligcaaDoor
