/-
  DERIVED. GIVEN WITH THE SEED: THE CARDS: each row of YtpifbmcgadjhbaaDoorRows.lean that lists a variable, with what it lists TIED to the program's text (the seventh form; the later family's looks); each row that meets fmt, with fmt's text TOLD by the authors' own Lean function (tested against real Go, not proved from fmt's source: count such statements apart). THE CARD IS WHAT COUNTS. Prove the row's statement (the work); the ties are given (YtpifbmcgadjhbaaDoorTie.lean); close each card by the builder's one call (the guide's Derived/Test/ToyasCard.lean, 'card_holds'). Laid BY PROGRAM, IN A SANDBOX (cutbox-door.mjs). By AI agents, Wed Nov 11 2026. No macro, syntax, notation, axiom, sorry.
-/
import Derived.Test.YtpifbmcgadjhbaaDoorRows
import GoSem.ClaimSeven
namespace Go.Proofs.YtpifbmcgadjhbaaDoor
namespace Rows

/-- THE TIED CARD OF 'legatelaw10.CanonEncodes'. -/
def canonEncodesCard : Claim7 := { stood := { row := canonEncodesRow, standIns := [], harness := (true, "1989b186720b6b4d1ee90d1c2d25bd9c49596fb33dd3d0822fbff796616d0c03"), looks := false }, kinds := [], alts := [], laidByText := true, laidKinds := [.data, .data, .data], laidTests := true, laidLooks := .later }
def CanonEncodesCardSaid : Prop := Claim7.holds Tryd.pinned (.plain (OpenSpec.ofChange canonEncodesSpec)) canonEncodesCard

/-- THE TIED CARD OF 'legatelaw10.CanonNames'. -/
def canonNamesCard : Claim7 := { stood := { row := canonNamesRow, standIns := [], harness := (true, "1989b186720b6b4d1ee90d1c2d25bd9c49596fb33dd3d0822fbff796616d0c03"), looks := false }, kinds := [], alts := [], laidByText := true, laidKinds := [.data, .data, .data], laidTests := true, laidLooks := .later }
def CanonNamesCardSaid : Prop := Claim7.holds Tryd.pinned (.plain (OpenSpec.ofChange canonNamesSpec)) canonNamesCard

/-- THE TIED CARD OF 'legatelaw10.CanonUnlike'. -/
def canonUnlikeCard : Claim7 := { stood := { row := canonUnlikeRow, standIns := [], harness := (true, "1989b186720b6b4d1ee90d1c2d25bd9c49596fb33dd3d0822fbff796616d0c03"), looks := false }, kinds := [], alts := [], laidByText := true, laidKinds := [.data, .data, .data], laidTests := true, laidLooks := .later }
def CanonUnlikeCardSaid : Prop := Claim7.holds Tryd.pinned (.plain (OpenSpec.ofChange canonUnlikeSpec)) canonUnlikeCard

/-- THE TIED CARD OF 'legatelaw10.CanonParts'. -/
def canonPartsCard : Claim7 := { stood := { row := canonPartsRow, standIns := [], harness := (true, "1989b186720b6b4d1ee90d1c2d25bd9c49596fb33dd3d0822fbff796616d0c03"), looks := false }, kinds := [], alts := [], laidByText := true, laidKinds := [.data, .data, .data], laidTests := true, laidLooks := .later }
def CanonPartsCardSaid : Prop := Claim7.holds Tryd.pinned (.plain (OpenSpec.ofChange canonPartsSpec)) canonPartsCard

/-- THE TIED CARD OF 'legatelaw10.CanonEnds'. -/
def canonEndsCard : Claim7 := { stood := { row := canonEndsRow, standIns := [], harness := (true, "1989b186720b6b4d1ee90d1c2d25bd9c49596fb33dd3d0822fbff796616d0c03"), looks := false }, kinds := [], alts := [], laidByText := true, laidKinds := [.data, .data, .data], laidTests := true, laidLooks := .later }
def CanonEndsCardSaid : Prop := Claim7.holds Tryd.pinned (.plain (OpenSpec.ofChange canonEndsSpec)) canonEndsCard

/-- THE SECOND FORM's CARD OF 'legatelaw10.CanonEncodes'. -/
def canonEncodesUptoCard : Claim7 := { stood := { row := canonEncodesUptoRow, standIns := [], harness := (true, "1989b186720b6b4d1ee90d1c2d25bd9c49596fb33dd3d0822fbff796616d0c03"), looks := false }, kinds := [], alts := [], laidByText := true, laidKinds := [.data, .data, .data], laidTests := true, laidLooks := .later }
def CanonEncodesUptoCardSaid : Prop := Claim7.holds Tryd.pinned (.plain (OpenSpec.upto canonEncodesSpec)) canonEncodesUptoCard

/-- THE SECOND FORM's CARD OF 'legatelaw10.CanonNames'. -/
def canonNamesUptoCard : Claim7 := { stood := { row := canonNamesUptoRow, standIns := [], harness := (true, "1989b186720b6b4d1ee90d1c2d25bd9c49596fb33dd3d0822fbff796616d0c03"), looks := false }, kinds := [], alts := [], laidByText := true, laidKinds := [.data, .data, .data], laidTests := true, laidLooks := .later }
def CanonNamesUptoCardSaid : Prop := Claim7.holds Tryd.pinned (.plain (OpenSpec.upto canonNamesSpec)) canonNamesUptoCard

/-- THE SECOND FORM's CARD OF 'legatelaw10.CanonUnlike'. -/
def canonUnlikeUptoCard : Claim7 := { stood := { row := canonUnlikeUptoRow, standIns := [], harness := (true, "1989b186720b6b4d1ee90d1c2d25bd9c49596fb33dd3d0822fbff796616d0c03"), looks := false }, kinds := [], alts := [], laidByText := true, laidKinds := [.data, .data, .data], laidTests := true, laidLooks := .later }
def CanonUnlikeUptoCardSaid : Prop := Claim7.holds Tryd.pinned (.plain (OpenSpec.upto canonUnlikeSpec)) canonUnlikeUptoCard

/-- THE SECOND FORM's CARD OF 'legatelaw10.CanonParts'. -/
def canonPartsUptoCard : Claim7 := { stood := { row := canonPartsUptoRow, standIns := [], harness := (true, "1989b186720b6b4d1ee90d1c2d25bd9c49596fb33dd3d0822fbff796616d0c03"), looks := false }, kinds := [], alts := [], laidByText := true, laidKinds := [.data, .data, .data], laidTests := true, laidLooks := .later }
def CanonPartsUptoCardSaid : Prop := Claim7.holds Tryd.pinned (.plain (OpenSpec.upto canonPartsSpec)) canonPartsUptoCard

/-- THE SECOND FORM's CARD OF 'legatelaw10.CanonEnds'. -/
def canonEndsUptoCard : Claim7 := { stood := { row := canonEndsUptoRow, standIns := [], harness := (true, "1989b186720b6b4d1ee90d1c2d25bd9c49596fb33dd3d0822fbff796616d0c03"), looks := false }, kinds := [], alts := [], laidByText := true, laidKinds := [.data, .data, .data], laidTests := true, laidLooks := .later }
def CanonEndsUptoCardSaid : Prop := Claim7.holds Tryd.pinned (.plain (OpenSpec.upto canonEndsSpec)) canonEndsUptoCard
end Rows
end Go.Proofs.YtpifbmcgadjhbaaDoor
