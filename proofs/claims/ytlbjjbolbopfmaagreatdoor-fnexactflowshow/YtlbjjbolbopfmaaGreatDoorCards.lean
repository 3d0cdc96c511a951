/-
  DERIVED. GIVEN WITH THE SEED: THE CARDS: each row of YtlbjjbolbopfmaaGreatDoorRows.lean that lists a variable, with what it lists TIED to the program's text (the seventh form; the later family's looks); each row that meets fmt, with fmt's text TOLD by the authors' own Lean function (tested against real Go, not proved from fmt's source: count such statements apart). THE CARD IS WHAT COUNTS. Prove the row's statement (the work); the ties are given (YtlbjjbolbopfmaaGreatDoorTie.lean); close each card by the builder's one call (the guide's Derived/Test/ToyasCard.lean, 'card_holds'). Laid BY PROGRAM, IN A SANDBOX (cutbox-door.mjs). By AI agents, Wed Nov 11 2026. No macro, syntax, notation, axiom, sorry.
-/
import Derived.Test.YtlbjjbolbopfmaaGreatDoorRows
import GoSem.ClaimSeven
namespace Go.Proofs.YtlbjjbolbopfmaaGreatDoor
namespace Rows

/-- THE TIED CARD OF 'laws.FnExactFlowMake'. -/
def fnExactFlowMakeCard : Claim7 := { stood := { row := fnExactFlowMakeRow, standIns := [], harness := (true, "738975afd9116d4396fb0a7582b7bba02411acb8da285eaa7e1c237c454dc03d"), looks := true }, kinds := [], alts := [], laidByText := true, laidKinds := [.data, .data, .data, .handle, .sentinel, .sentinel], laidTests := true, laidLooks := .later }
def FnExactFlowMakeCardSaid : Prop := Claim7.holds Tryz.pinned (.plain (OpenSpec.ofChange fnExactFlowMakeSpec)) fnExactFlowMakeCard

/-- THE TIED CARD OF 'laws.FnExactFlowShow'. -/
def fnExactFlowShowCard : Claim7 := { stood := { row := fnExactFlowShowRow, standIns := [], harness := (true, "738975afd9116d4396fb0a7582b7bba02411acb8da285eaa7e1c237c454dc03d"), looks := true }, kinds := [], alts := [], laidByText := true, laidKinds := [.data, .data, .data, .handle, .sentinel, .sentinel], laidTests := true, laidLooks := .later }
def FnExactFlowShowCardSaid : Prop := Claim7.holds Tryz.pinned (.plain (OpenSpec.ofChange fnExactFlowShowSpec)) fnExactFlowShowCard

/-- THE TIED CARD OF 'laws.FnExactVerSwap'. -/
def fnExactVerSwapCard : Claim7 := { stood := { row := fnExactVerSwapRow, standIns := [], harness := (true, "738975afd9116d4396fb0a7582b7bba02411acb8da285eaa7e1c237c454dc03d"), looks := true }, kinds := [], alts := [], laidByText := true, laidKinds := [.data, .data, .data, .handle, .sentinel, .sentinel], laidTests := true, laidLooks := .later }
def FnExactVerSwapCardSaid : Prop := Claim7.holds Tryz.pinned (.plain (OpenSpec.ofChange fnExactVerSwapSpec)) fnExactVerSwapCard

/-- THE TIED CARD OF 'laws.FnExactVerInsert'. -/
def fnExactVerInsertCard : Claim7 := { stood := { row := fnExactVerInsertRow, standIns := [], harness := (true, "738975afd9116d4396fb0a7582b7bba02411acb8da285eaa7e1c237c454dc03d"), looks := true }, kinds := [], alts := [], laidByText := true, laidKinds := [.data, .data, .data, .handle, .sentinel, .sentinel], laidTests := true, laidLooks := .later }
def FnExactVerInsertCardSaid : Prop := Claim7.holds Tryz.pinned (.plain (OpenSpec.ofChange fnExactVerInsertSpec)) fnExactVerInsertCard

/-- THE TIED CARD OF 'laws.FnFlowTop'. -/
def fnFlowTopCard : Claim7 := { stood := { row := fnFlowTopRow, standIns := [], harness := (true, "738975afd9116d4396fb0a7582b7bba02411acb8da285eaa7e1c237c454dc03d"), looks := true }, kinds := [], alts := [], laidByText := true, laidKinds := [.data, .data, .data, .handle, .sentinel, .sentinel], laidTests := true, laidLooks := .later }
def FnFlowTopCardSaid : Prop := Claim7.holds Tryz.pinned (.plain (OpenSpec.ofChange fnFlowTopSpec)) fnFlowTopCard

/-- THE TIED CARD OF 'laws.FnFlowBoth'. -/
def fnFlowBothCard : Claim7 := { stood := { row := fnFlowBothRow, standIns := [], harness := (true, "738975afd9116d4396fb0a7582b7bba02411acb8da285eaa7e1c237c454dc03d"), looks := true }, kinds := [], alts := [], laidByText := true, laidKinds := [.data, .data, .data, .handle, .sentinel, .sentinel], laidTests := true, laidLooks := .later }
def FnFlowBothCardSaid : Prop := Claim7.holds Tryz.pinned (.plain (OpenSpec.ofChange fnFlowBothSpec)) fnFlowBothCard

/-- THE SECOND FORM's CARD OF 'laws.FnExactFlowMake'. -/
def fnExactFlowMakeUptoCard : Claim7 := { stood := { row := fnExactFlowMakeUptoRow, standIns := [], harness := (true, "738975afd9116d4396fb0a7582b7bba02411acb8da285eaa7e1c237c454dc03d"), looks := true }, kinds := [], alts := [], laidByText := true, laidKinds := [.data, .data, .data, .handle, .sentinel, .sentinel], laidTests := true, laidLooks := .later }
def FnExactFlowMakeUptoCardSaid : Prop := Claim7.holds Tryz.pinned (.plain (OpenSpec.upto fnExactFlowMakeSpec)) fnExactFlowMakeUptoCard

/-- THE SECOND FORM's CARD OF 'laws.FnExactFlowShow'. -/
def fnExactFlowShowUptoCard : Claim7 := { stood := { row := fnExactFlowShowUptoRow, standIns := [], harness := (true, "738975afd9116d4396fb0a7582b7bba02411acb8da285eaa7e1c237c454dc03d"), looks := true }, kinds := [], alts := [], laidByText := true, laidKinds := [.data, .data, .data, .handle, .sentinel, .sentinel], laidTests := true, laidLooks := .later }
def FnExactFlowShowUptoCardSaid : Prop := Claim7.holds Tryz.pinned (.plain (OpenSpec.upto fnExactFlowShowSpec)) fnExactFlowShowUptoCard

/-- THE SECOND FORM's CARD OF 'laws.FnExactVerSwap'. -/
def fnExactVerSwapUptoCard : Claim7 := { stood := { row := fnExactVerSwapUptoRow, standIns := [], harness := (true, "738975afd9116d4396fb0a7582b7bba02411acb8da285eaa7e1c237c454dc03d"), looks := true }, kinds := [], alts := [], laidByText := true, laidKinds := [.data, .data, .data, .handle, .sentinel, .sentinel], laidTests := true, laidLooks := .later }
def FnExactVerSwapUptoCardSaid : Prop := Claim7.holds Tryz.pinned (.plain (OpenSpec.upto fnExactVerSwapSpec)) fnExactVerSwapUptoCard

/-- THE SECOND FORM's CARD OF 'laws.FnExactVerInsert'. -/
def fnExactVerInsertUptoCard : Claim7 := { stood := { row := fnExactVerInsertUptoRow, standIns := [], harness := (true, "738975afd9116d4396fb0a7582b7bba02411acb8da285eaa7e1c237c454dc03d"), looks := true }, kinds := [], alts := [], laidByText := true, laidKinds := [.data, .data, .data, .handle, .sentinel, .sentinel], laidTests := true, laidLooks := .later }
def FnExactVerInsertUptoCardSaid : Prop := Claim7.holds Tryz.pinned (.plain (OpenSpec.upto fnExactVerInsertSpec)) fnExactVerInsertUptoCard

/-- THE SECOND FORM's CARD OF 'laws.FnFlowTop'. -/
def fnFlowTopUptoCard : Claim7 := { stood := { row := fnFlowTopUptoRow, standIns := [], harness := (true, "738975afd9116d4396fb0a7582b7bba02411acb8da285eaa7e1c237c454dc03d"), looks := true }, kinds := [], alts := [], laidByText := true, laidKinds := [.data, .data, .data, .handle, .sentinel, .sentinel], laidTests := true, laidLooks := .later }
def FnFlowTopUptoCardSaid : Prop := Claim7.holds Tryz.pinned (.plain (OpenSpec.upto fnFlowTopSpec)) fnFlowTopUptoCard

/-- THE SECOND FORM's CARD OF 'laws.FnFlowBoth'. -/
def fnFlowBothUptoCard : Claim7 := { stood := { row := fnFlowBothUptoRow, standIns := [], harness := (true, "738975afd9116d4396fb0a7582b7bba02411acb8da285eaa7e1c237c454dc03d"), looks := true }, kinds := [], alts := [], laidByText := true, laidKinds := [.data, .data, .data, .handle, .sentinel, .sentinel], laidTests := true, laidLooks := .later }
def FnFlowBothUptoCardSaid : Prop := Claim7.holds Tryz.pinned (.plain (OpenSpec.upto fnFlowBothSpec)) fnFlowBothUptoCard
end Rows
end Go.Proofs.YtlbjjbolbopfmaaGreatDoor
