/-
  DERIVED. GIVEN WITH THE SEED: THE CARDS: each row of YtfocnipdmckojaaDoorRows.lean that lists a variable, with what it lists TIED to the program's text (the seventh form; the later family's looks); each row that meets fmt, with fmt's text TOLD by the authors' own Lean function (tested against real Go, not proved from fmt's source: count such statements apart). THE CARD IS WHAT COUNTS. Prove the row's statement (the work); the ties are given (YtfocnipdmckojaaDoorTie.lean); close each card by the builder's one call (the guide's Derived/Test/ToyasCard.lean, 'card_holds'). Laid BY PROGRAM, IN A SANDBOX (cutbox-door.mjs). By AI agents, Wed Nov 11 2026. No macro, syntax, notation, axiom, sorry.
-/
import Derived.Test.YtfocnipdmckojaaDoorRows
import GoSem.ClaimSeven
namespace Go.Proofs.YtfocnipdmckojaaDoor
namespace Rows

/-- THE TIED CARD OF 'forebaylaw14.DirectReads'. -/
def directReadsCard : Claim7 := { stood := { row := directReadsRow, standIns := [], harness := (true, "862e9ea265395b8d8dbfabec05a77291a501717b0db60c000a091ede3c69aef2"), looks := true }, kinds := [], alts := [], laidByText := true, laidKinds := [.data, .data, .data, .data, .sentinel, .sentinel, .pinned], laidTests := true, laidLooks := .later }
def DirectReadsCardSaid : Prop := Claim7.holds Tryd.pinned (.plain (OpenSpec.ofChange directReadsSpec)) directReadsCard

/-- THE TIED CARD OF 'forebaylaw14.DirectTexts'. -/
def directTextsCard : Claim7 := { stood := { row := directTextsRow, standIns := [], harness := (true, "862e9ea265395b8d8dbfabec05a77291a501717b0db60c000a091ede3c69aef2"), looks := true }, kinds := [], alts := [], laidByText := true, laidKinds := [.data, .data, .data, .data, .sentinel, .sentinel, .pinned], laidTests := true, laidLooks := .later }
def DirectTextsCardSaid : Prop := Claim7.holds Tryd.pinned (.plain (OpenSpec.ofChange directTextsSpec)) directTextsCard

/-- THE TIED CARD OF 'forebaylaw14.DirectOrder'. -/
def directOrderCard : Claim7 := { stood := { row := directOrderRow, standIns := [], harness := (true, "862e9ea265395b8d8dbfabec05a77291a501717b0db60c000a091ede3c69aef2"), looks := true }, kinds := [], alts := [], laidByText := true, laidKinds := [.data, .data, .data, .data, .sentinel, .sentinel, .pinned], laidTests := true, laidLooks := .later }
def DirectOrderCardSaid : Prop := Claim7.holds Tryd.pinned (.plain (OpenSpec.ofChange directOrderSpec)) directOrderCard

/-- THE TIED CARD OF 'forebaylaw14.DirectSizes'. -/
def directSizesCard : Claim7 := { stood := { row := directSizesRow, standIns := [], harness := (true, "862e9ea265395b8d8dbfabec05a77291a501717b0db60c000a091ede3c69aef2"), looks := true }, kinds := [], alts := [], laidByText := true, laidKinds := [.data, .data, .data, .data, .sentinel, .sentinel, .pinned], laidTests := true, laidLooks := .later }
def DirectSizesCardSaid : Prop := Claim7.holds Tryd.pinned (.plain (OpenSpec.ofChange directSizesSpec)) directSizesCard

/-- THE SECOND FORM's CARD OF 'forebaylaw14.DirectReads'. -/
def directReadsUptoCard : Claim7 := { stood := { row := directReadsUptoRow, standIns := [], harness := (true, "862e9ea265395b8d8dbfabec05a77291a501717b0db60c000a091ede3c69aef2"), looks := true }, kinds := [], alts := [], laidByText := true, laidKinds := [.data, .data, .data, .data, .sentinel, .sentinel, .pinned], laidTests := true, laidLooks := .later }
def DirectReadsUptoCardSaid : Prop := Claim7.holds Tryd.pinned (.plain (OpenSpec.upto directReadsSpec)) directReadsUptoCard

/-- THE SECOND FORM's CARD OF 'forebaylaw14.DirectTexts'. -/
def directTextsUptoCard : Claim7 := { stood := { row := directTextsUptoRow, standIns := [], harness := (true, "862e9ea265395b8d8dbfabec05a77291a501717b0db60c000a091ede3c69aef2"), looks := true }, kinds := [], alts := [], laidByText := true, laidKinds := [.data, .data, .data, .data, .sentinel, .sentinel, .pinned], laidTests := true, laidLooks := .later }
def DirectTextsUptoCardSaid : Prop := Claim7.holds Tryd.pinned (.plain (OpenSpec.upto directTextsSpec)) directTextsUptoCard

/-- THE SECOND FORM's CARD OF 'forebaylaw14.DirectOrder'. -/
def directOrderUptoCard : Claim7 := { stood := { row := directOrderUptoRow, standIns := [], harness := (true, "862e9ea265395b8d8dbfabec05a77291a501717b0db60c000a091ede3c69aef2"), looks := true }, kinds := [], alts := [], laidByText := true, laidKinds := [.data, .data, .data, .data, .sentinel, .sentinel, .pinned], laidTests := true, laidLooks := .later }
def DirectOrderUptoCardSaid : Prop := Claim7.holds Tryd.pinned (.plain (OpenSpec.upto directOrderSpec)) directOrderUptoCard

/-- THE SECOND FORM's CARD OF 'forebaylaw14.DirectSizes'. -/
def directSizesUptoCard : Claim7 := { stood := { row := directSizesUptoRow, standIns := [], harness := (true, "862e9ea265395b8d8dbfabec05a77291a501717b0db60c000a091ede3c69aef2"), looks := true }, kinds := [], alts := [], laidByText := true, laidKinds := [.data, .data, .data, .data, .sentinel, .sentinel, .pinned], laidTests := true, laidLooks := .later }
def DirectSizesUptoCardSaid : Prop := Claim7.holds Tryd.pinned (.plain (OpenSpec.upto directSizesSpec)) directSizesUptoCard
end Rows
end Go.Proofs.YtfocnipdmckojaaDoor
