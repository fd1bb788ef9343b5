/-
  DERIVED. GIVEN WITH THE SEED: THE CARDS: each row of YtpmghgfgbkncoaaGreatDoorRows.lean that lists a variable, with what it lists TIED to the program's text (the seventh form; the later family's looks); each row that meets fmt, with fmt's text TOLD by the authors' own Lean function (tested against real Go, not proved from fmt's source: count such statements apart). THE CARD IS WHAT COUNTS. Prove the row's statement (the work); the ties are given (YtpmghgfgbkncoaaGreatDoorTie.lean); close each card by the builder's one call (the guide's Derived/Test/ToyasCard.lean, 'card_holds'). Laid BY PROGRAM, IN A SANDBOX (cutbox-door.mjs). By AI agents, Wed Nov 11 2026. No macro, syntax, notation, axiom, sorry.
-/
import Derived.Test.YtpmghgfgbkncoaaGreatDoorRows
import GoSem.ClaimSeven
namespace Go.Proofs.YtpmghgfgbkncoaaGreatDoor
namespace Rows

/-- THE TIED CARD OF 'forebaylaw15.SlipReads'. -/
def slipReadsCard : Claim7 := { stood := { row := slipReadsRow, standIns := [], harness := (true, "a0b3b38965a4325b220a6aef0c96e43f2870227a34da8138a0837d649fa7cad1"), looks := true }, kinds := [], alts := [], laidByText := true, laidKinds := [.data, .data, .data, .data, .sentinel, .sentinel, .pinned], laidTests := true, laidLooks := .later }
def SlipReadsCardSaid : Prop := Claim7.holds Tryz.pinned (.plain (OpenSpec.ofChange slipReadsSpec)) slipReadsCard

/-- THE TIED CARD OF 'forebaylaw15.SlipTexts'. -/
def slipTextsCard : Claim7 := { stood := { row := slipTextsRow, standIns := [], harness := (true, "a0b3b38965a4325b220a6aef0c96e43f2870227a34da8138a0837d649fa7cad1"), looks := true }, kinds := [], alts := [], laidByText := true, laidKinds := [.data, .data, .data, .data, .sentinel, .sentinel, .pinned], laidTests := true, laidLooks := .later }
def SlipTextsCardSaid : Prop := Claim7.holds Tryz.pinned (.plain (OpenSpec.ofChange slipTextsSpec)) slipTextsCard

/-- THE TIED CARD OF 'forebaylaw15.SlipLines'. -/
def slipLinesCard : Claim7 := { stood := { row := slipLinesRow, standIns := [], harness := (true, "a0b3b38965a4325b220a6aef0c96e43f2870227a34da8138a0837d649fa7cad1"), looks := true }, kinds := [], alts := [], laidByText := true, laidKinds := [.data, .data, .data, .data, .sentinel, .sentinel, .pinned], laidTests := true, laidLooks := .later }
def SlipLinesCardSaid : Prop := Claim7.holds Tryz.pinned (.plain (OpenSpec.ofChange slipLinesSpec)) slipLinesCard

/-- THE TIED CARD OF 'forebaylaw15.SlipWants'. -/
def slipWantsCard : Claim7 := { stood := { row := slipWantsRow, standIns := [], harness := (true, "a0b3b38965a4325b220a6aef0c96e43f2870227a34da8138a0837d649fa7cad1"), looks := true }, kinds := [], alts := [], laidByText := true, laidKinds := [.data, .data, .data, .data, .sentinel, .sentinel, .pinned], laidTests := true, laidLooks := .later }
def SlipWantsCardSaid : Prop := Claim7.holds Tryz.pinned (.plain (OpenSpec.ofChange slipWantsSpec)) slipWantsCard

/-- THE SECOND FORM's CARD OF 'forebaylaw15.SlipReads'. -/
def slipReadsUptoCard : Claim7 := { stood := { row := slipReadsUptoRow, standIns := [], harness := (true, "a0b3b38965a4325b220a6aef0c96e43f2870227a34da8138a0837d649fa7cad1"), looks := true }, kinds := [], alts := [], laidByText := true, laidKinds := [.data, .data, .data, .data, .sentinel, .sentinel, .pinned], laidTests := true, laidLooks := .later }
def SlipReadsUptoCardSaid : Prop := Claim7.holds Tryz.pinned (.plain (OpenSpec.upto slipReadsSpec)) slipReadsUptoCard

/-- THE SECOND FORM's CARD OF 'forebaylaw15.SlipTexts'. -/
def slipTextsUptoCard : Claim7 := { stood := { row := slipTextsUptoRow, standIns := [], harness := (true, "a0b3b38965a4325b220a6aef0c96e43f2870227a34da8138a0837d649fa7cad1"), looks := true }, kinds := [], alts := [], laidByText := true, laidKinds := [.data, .data, .data, .data, .sentinel, .sentinel, .pinned], laidTests := true, laidLooks := .later }
def SlipTextsUptoCardSaid : Prop := Claim7.holds Tryz.pinned (.plain (OpenSpec.upto slipTextsSpec)) slipTextsUptoCard

/-- THE SECOND FORM's CARD OF 'forebaylaw15.SlipLines'. -/
def slipLinesUptoCard : Claim7 := { stood := { row := slipLinesUptoRow, standIns := [], harness := (true, "a0b3b38965a4325b220a6aef0c96e43f2870227a34da8138a0837d649fa7cad1"), looks := true }, kinds := [], alts := [], laidByText := true, laidKinds := [.data, .data, .data, .data, .sentinel, .sentinel, .pinned], laidTests := true, laidLooks := .later }
def SlipLinesUptoCardSaid : Prop := Claim7.holds Tryz.pinned (.plain (OpenSpec.upto slipLinesSpec)) slipLinesUptoCard

/-- THE SECOND FORM's CARD OF 'forebaylaw15.SlipWants'. -/
def slipWantsUptoCard : Claim7 := { stood := { row := slipWantsUptoRow, standIns := [], harness := (true, "a0b3b38965a4325b220a6aef0c96e43f2870227a34da8138a0837d649fa7cad1"), looks := true }, kinds := [], alts := [], laidByText := true, laidKinds := [.data, .data, .data, .data, .sentinel, .sentinel, .pinned], laidTests := true, laidLooks := .later }
def SlipWantsUptoCardSaid : Prop := Claim7.holds Tryz.pinned (.plain (OpenSpec.upto slipWantsSpec)) slipWantsUptoCard
end Rows
end Go.Proofs.YtpmghgfgbkncoaaGreatDoor
