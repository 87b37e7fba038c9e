/-
  DERIVED. GIVEN WITH THE SEED: THE CARDS: each row of YthhgjcaonllnfaaGreatDoorRows.lean that lists a variable, with what it lists TIED to the program's text (the seventh form; the later family's looks); each row that meets fmt, with fmt's text TOLD by the authors' own Lean function (tested against real Go, not proved from fmt's source: count such statements apart). THE CARD IS WHAT COUNTS. Prove the row's statement (the work); the ties are given (YthhgjcaonllnfaaGreatDoorTie.lean); close each card by the builder's one call (the guide's Derived/Test/ToyasCard.lean, 'card_holds'). Laid BY PROGRAM, IN A SANDBOX (cutbox-door.mjs). By AI agents, Wed Nov 11 2026. No macro, syntax, notation, axiom, sorry.
-/
import Derived.Test.YthhgjcaonllnfaaGreatDoorRows
import GoSem.ClaimSeven
namespace Go.Proofs.YthhgjcaonllnfaaGreatDoor
namespace Rows

/-- THE TIED CARD OF 'weathercocklaw09.ParseReads'. -/
def parseReadsCard : Claim7 := { stood := { row := parseReadsRow, standIns := [], harness := (true, "81aefa22a7801a72f4db30f217eb536de3806d6e6826ee4ac6bb6bca53a473df"), looks := true }, kinds := [], alts := [], laidByText := true, laidKinds := [.data, .data, .data, .data, .sentinel, .sentinel, .listed, .data, .data, .pinned, .pinned], laidTests := true, laidLooks := .later }
def ParseReadsCardSaid : Prop := Claim7.holds Tryz.pinned (.plain (OpenSpec.ofChange parseReadsSpec)) parseReadsCard

/-- THE TIED CARD OF 'weathercocklaw09.ParsePlaces'. -/
def parsePlacesCard : Claim7 := { stood := { row := parsePlacesRow, standIns := [], harness := (true, "81aefa22a7801a72f4db30f217eb536de3806d6e6826ee4ac6bb6bca53a473df"), looks := true }, kinds := [], alts := [], laidByText := true, laidKinds := [.data, .data, .data, .data, .sentinel, .sentinel, .listed, .data, .data, .pinned, .pinned], laidTests := true, laidLooks := .later }
def ParsePlacesCardSaid : Prop := Claim7.holds Tryz.pinned (.plain (OpenSpec.ofChange parsePlacesSpec)) parsePlacesCard

/-- THE TIED CARD OF 'weathercocklaw09.ParseBlanks'. -/
def parseBlanksCard : Claim7 := { stood := { row := parseBlanksRow, standIns := [], harness := (true, "81aefa22a7801a72f4db30f217eb536de3806d6e6826ee4ac6bb6bca53a473df"), looks := true }, kinds := [], alts := [], laidByText := true, laidKinds := [.data, .data, .data, .data, .sentinel, .sentinel, .listed, .data, .data, .pinned, .pinned], laidTests := true, laidLooks := .later }
def ParseBlanksCardSaid : Prop := Claim7.holds Tryz.pinned (.plain (OpenSpec.ofChange parseBlanksSpec)) parseBlanksCard

/-- THE TIED CARD OF 'weathercocklaw09.ParseAlls'. -/
def parseAllsCard : Claim7 := { stood := { row := parseAllsRow, standIns := [], harness := (true, "81aefa22a7801a72f4db30f217eb536de3806d6e6826ee4ac6bb6bca53a473df"), looks := true }, kinds := [], alts := [], laidByText := true, laidKinds := [.data, .data, .data, .data, .sentinel, .sentinel, .listed, .data, .data, .pinned, .pinned], laidTests := true, laidLooks := .later }
def ParseAllsCardSaid : Prop := Claim7.holds Tryz.pinned (.plain (OpenSpec.ofChange parseAllsSpec)) parseAllsCard

/-- THE TIED CARD OF 'weathercocklaw09.ParseOrder'. -/
def parseOrderCard : Claim7 := { stood := { row := parseOrderRow, standIns := [], harness := (true, "81aefa22a7801a72f4db30f217eb536de3806d6e6826ee4ac6bb6bca53a473df"), looks := true }, kinds := [], alts := [], laidByText := true, laidKinds := [.data, .data, .data, .data, .sentinel, .sentinel, .listed, .data, .data, .pinned, .pinned], laidTests := true, laidLooks := .later }
def ParseOrderCardSaid : Prop := Claim7.holds Tryz.pinned (.plain (OpenSpec.ofChange parseOrderSpec)) parseOrderCard

/-- THE TIED CARD OF 'weathercocklaw10.BindCols'. -/
def bindColsCard : Claim7 := { stood := { row := bindColsRow, standIns := [], harness := (true, "81aefa22a7801a72f4db30f217eb536de3806d6e6826ee4ac6bb6bca53a473df"), looks := true }, kinds := [], alts := [], laidByText := true, laidKinds := [.data, .data, .data, .data, .sentinel, .sentinel, .listed, .data, .data, .data, .pinned, .pinned], laidTests := true, laidLooks := .later }
def BindColsCardSaid : Prop := Claim7.holds Tryz.pinned (.plain (OpenSpec.ofChange bindColsSpec)) bindColsCard

/-- THE TIED CARD OF 'weathercocklaw10.BindFits'. -/
def bindFitsCard : Claim7 := { stood := { row := bindFitsRow, standIns := [], harness := (true, "81aefa22a7801a72f4db30f217eb536de3806d6e6826ee4ac6bb6bca53a473df"), looks := true }, kinds := [], alts := [], laidByText := true, laidKinds := [.data, .data, .data, .data, .sentinel, .sentinel, .listed, .data, .data, .data, .pinned, .pinned], laidTests := true, laidLooks := .later }
def BindFitsCardSaid : Prop := Claim7.holds Tryz.pinned (.plain (OpenSpec.ofChange bindFitsSpec)) bindFitsCard

/-- THE TIED CARD OF 'weathercocklaw10.BindUnion'. -/
def bindUnionCard : Claim7 := { stood := { row := bindUnionRow, standIns := [], harness := (true, "81aefa22a7801a72f4db30f217eb536de3806d6e6826ee4ac6bb6bca53a473df"), looks := true }, kinds := [], alts := [], laidByText := true, laidKinds := [.data, .data, .data, .data, .sentinel, .sentinel, .listed, .data, .data, .data, .pinned, .pinned], laidTests := true, laidLooks := .later }
def BindUnionCardSaid : Prop := Claim7.holds Tryz.pinned (.plain (OpenSpec.ofChange bindUnionSpec)) bindUnionCard

/-- THE TIED CARD OF 'weathercocklaw10.BindNames'. -/
def bindNamesCard : Claim7 := { stood := { row := bindNamesRow, standIns := [], harness := (true, "81aefa22a7801a72f4db30f217eb536de3806d6e6826ee4ac6bb6bca53a473df"), looks := true }, kinds := [], alts := [], laidByText := true, laidKinds := [.data, .data, .data, .data, .sentinel, .sentinel, .listed, .data, .data, .data, .pinned, .pinned], laidTests := true, laidLooks := .later }
def BindNamesCardSaid : Prop := Claim7.holds Tryz.pinned (.plain (OpenSpec.ofChange bindNamesSpec)) bindNamesCard

/-- THE SECOND FORM's CARD OF 'weathercocklaw09.ParseReads'. -/
def parseReadsUptoCard : Claim7 := { stood := { row := parseReadsUptoRow, standIns := [], harness := (true, "81aefa22a7801a72f4db30f217eb536de3806d6e6826ee4ac6bb6bca53a473df"), looks := true }, kinds := [], alts := [], laidByText := true, laidKinds := [.data, .data, .data, .data, .sentinel, .sentinel, .listed, .data, .data, .pinned, .pinned], laidTests := true, laidLooks := .later }
def ParseReadsUptoCardSaid : Prop := Claim7.holds Tryz.pinned (.plain (OpenSpec.upto parseReadsSpec)) parseReadsUptoCard

/-- THE SECOND FORM's CARD OF 'weathercocklaw09.ParsePlaces'. -/
def parsePlacesUptoCard : Claim7 := { stood := { row := parsePlacesUptoRow, standIns := [], harness := (true, "81aefa22a7801a72f4db30f217eb536de3806d6e6826ee4ac6bb6bca53a473df"), looks := true }, kinds := [], alts := [], laidByText := true, laidKinds := [.data, .data, .data, .data, .sentinel, .sentinel, .listed, .data, .data, .pinned, .pinned], laidTests := true, laidLooks := .later }
def ParsePlacesUptoCardSaid : Prop := Claim7.holds Tryz.pinned (.plain (OpenSpec.upto parsePlacesSpec)) parsePlacesUptoCard

/-- THE SECOND FORM's CARD OF 'weathercocklaw09.ParseBlanks'. -/
def parseBlanksUptoCard : Claim7 := { stood := { row := parseBlanksUptoRow, standIns := [], harness := (true, "81aefa22a7801a72f4db30f217eb536de3806d6e6826ee4ac6bb6bca53a473df"), looks := true }, kinds := [], alts := [], laidByText := true, laidKinds := [.data, .data, .data, .data, .sentinel, .sentinel, .listed, .data, .data, .pinned, .pinned], laidTests := true, laidLooks := .later }
def ParseBlanksUptoCardSaid : Prop := Claim7.holds Tryz.pinned (.plain (OpenSpec.upto parseBlanksSpec)) parseBlanksUptoCard

/-- THE SECOND FORM's CARD OF 'weathercocklaw09.ParseAlls'. -/
def parseAllsUptoCard : Claim7 := { stood := { row := parseAllsUptoRow, standIns := [], harness := (true, "81aefa22a7801a72f4db30f217eb536de3806d6e6826ee4ac6bb6bca53a473df"), looks := true }, kinds := [], alts := [], laidByText := true, laidKinds := [.data, .data, .data, .data, .sentinel, .sentinel, .listed, .data, .data, .pinned, .pinned], laidTests := true, laidLooks := .later }
def ParseAllsUptoCardSaid : Prop := Claim7.holds Tryz.pinned (.plain (OpenSpec.upto parseAllsSpec)) parseAllsUptoCard

/-- THE SECOND FORM's CARD OF 'weathercocklaw09.ParseOrder'. -/
def parseOrderUptoCard : Claim7 := { stood := { row := parseOrderUptoRow, standIns := [], harness := (true, "81aefa22a7801a72f4db30f217eb536de3806d6e6826ee4ac6bb6bca53a473df"), looks := true }, kinds := [], alts := [], laidByText := true, laidKinds := [.data, .data, .data, .data, .sentinel, .sentinel, .listed, .data, .data, .pinned, .pinned], laidTests := true, laidLooks := .later }
def ParseOrderUptoCardSaid : Prop := Claim7.holds Tryz.pinned (.plain (OpenSpec.upto parseOrderSpec)) parseOrderUptoCard

/-- THE SECOND FORM's CARD OF 'weathercocklaw10.BindCols'. -/
def bindColsUptoCard : Claim7 := { stood := { row := bindColsUptoRow, standIns := [], harness := (true, "81aefa22a7801a72f4db30f217eb536de3806d6e6826ee4ac6bb6bca53a473df"), looks := true }, kinds := [], alts := [], laidByText := true, laidKinds := [.data, .data, .data, .data, .sentinel, .sentinel, .listed, .data, .data, .data, .pinned, .pinned], laidTests := true, laidLooks := .later }
def BindColsUptoCardSaid : Prop := Claim7.holds Tryz.pinned (.plain (OpenSpec.upto bindColsSpec)) bindColsUptoCard

/-- THE SECOND FORM's CARD OF 'weathercocklaw10.BindFits'. -/
def bindFitsUptoCard : Claim7 := { stood := { row := bindFitsUptoRow, standIns := [], harness := (true, "81aefa22a7801a72f4db30f217eb536de3806d6e6826ee4ac6bb6bca53a473df"), looks := true }, kinds := [], alts := [], laidByText := true, laidKinds := [.data, .data, .data, .data, .sentinel, .sentinel, .listed, .data, .data, .data, .pinned, .pinned], laidTests := true, laidLooks := .later }
def BindFitsUptoCardSaid : Prop := Claim7.holds Tryz.pinned (.plain (OpenSpec.upto bindFitsSpec)) bindFitsUptoCard

/-- THE SECOND FORM's CARD OF 'weathercocklaw10.BindUnion'. -/
def bindUnionUptoCard : Claim7 := { stood := { row := bindUnionUptoRow, standIns := [], harness := (true, "81aefa22a7801a72f4db30f217eb536de3806d6e6826ee4ac6bb6bca53a473df"), looks := true }, kinds := [], alts := [], laidByText := true, laidKinds := [.data, .data, .data, .data, .sentinel, .sentinel, .listed, .data, .data, .data, .pinned, .pinned], laidTests := true, laidLooks := .later }
def BindUnionUptoCardSaid : Prop := Claim7.holds Tryz.pinned (.plain (OpenSpec.upto bindUnionSpec)) bindUnionUptoCard

/-- THE SECOND FORM's CARD OF 'weathercocklaw10.BindNames'. -/
def bindNamesUptoCard : Claim7 := { stood := { row := bindNamesUptoRow, standIns := [], harness := (true, "81aefa22a7801a72f4db30f217eb536de3806d6e6826ee4ac6bb6bca53a473df"), looks := true }, kinds := [], alts := [], laidByText := true, laidKinds := [.data, .data, .data, .data, .sentinel, .sentinel, .listed, .data, .data, .data, .pinned, .pinned], laidTests := true, laidLooks := .later }
def BindNamesUptoCardSaid : Prop := Claim7.holds Tryz.pinned (.plain (OpenSpec.upto bindNamesSpec)) bindNamesUptoCard
end Rows
end Go.Proofs.YthhgjcaonllnfaaGreatDoor
