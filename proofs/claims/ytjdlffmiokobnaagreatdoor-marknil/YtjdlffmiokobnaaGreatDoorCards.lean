/-
  DERIVED. GIVEN WITH THE SEED: THE CARDS: each row of YtjdlffmiokobnaaGreatDoorRows.lean that lists a variable, with what it lists TIED to the program's text (the seventh form; the later family's looks); each row that meets fmt, with fmt's text TOLD by the authors' own Lean function (tested against real Go, not proved from fmt's source: count such statements apart). THE CARD IS WHAT COUNTS. Prove the row's statement (the work); the ties are given (YtjdlffmiokobnaaGreatDoorTie.lean); close each card by the builder's one call (the guide's Derived/Test/ToyasCard.lean, 'card_holds'). Laid BY PROGRAM, IN A SANDBOX (cutbox-door.mjs). By AI agents, Wed Nov 11 2026. No macro, syntax, notation, axiom, sorry.
-/
import Derived.Test.YtjdlffmiokobnaaGreatDoorRows
import GoSem.ClaimSeven
namespace Go.Proofs.YtjdlffmiokobnaaGreatDoor
namespace Rows

/-- THE TIED CARD OF 'gleanerlaw16.MarkPlays'. -/
def markPlaysCard : Claim7 := { stood := { row := markPlaysRow, standIns := [], harness := (true, "c7bd444387cb8c728ce91cf8d5bb4e0baf30441bdd1b464d6aee8a6863ac5b33"), looks := false }, kinds := [], alts := [], laidByText := true, laidKinds := [.data, .data, .data, .pinned], laidTests := true, laidLooks := .later }
def MarkPlaysCardSaid : Prop := Claim7.holds Tryz.pinned (.plain (OpenSpec.ofChange markPlaysSpec)) markPlaysCard

/-- THE TIED CARD OF 'gleanerlaw16.MarkWhole'. -/
def markWholeCard : Claim7 := { stood := { row := markWholeRow, standIns := [], harness := (true, "c7bd444387cb8c728ce91cf8d5bb4e0baf30441bdd1b464d6aee8a6863ac5b33"), looks := false }, kinds := [], alts := [], laidByText := true, laidKinds := [.data, .data, .data, .pinned], laidTests := true, laidLooks := .later }
def MarkWholeCardSaid : Prop := Claim7.holds Tryz.pinned (.plain (OpenSpec.ofChange markWholeSpec)) markWholeCard

/-- THE TIED CARD OF 'gleanerlaw16.MarkNil'. -/
def markNilCard : Claim7 := { stood := { row := markNilRow, standIns := [], harness := (true, "c7bd444387cb8c728ce91cf8d5bb4e0baf30441bdd1b464d6aee8a6863ac5b33"), looks := false }, kinds := [], alts := [], laidByText := true, laidKinds := [.data, .pinned], laidTests := true, laidLooks := .later }
def MarkNilCardSaid : Prop := Claim7.holds Tryz.pinned (.plain (OpenSpec.ofChange markNilSpec)) markNilCard

/-- THE SECOND FORM's CARD OF 'gleanerlaw16.MarkPlays'. -/
def markPlaysUptoCard : Claim7 := { stood := { row := markPlaysUptoRow, standIns := [], harness := (true, "c7bd444387cb8c728ce91cf8d5bb4e0baf30441bdd1b464d6aee8a6863ac5b33"), looks := false }, kinds := [], alts := [], laidByText := true, laidKinds := [.data, .data, .data, .pinned], laidTests := true, laidLooks := .later }
def MarkPlaysUptoCardSaid : Prop := Claim7.holds Tryz.pinned (.plain (OpenSpec.upto markPlaysSpec)) markPlaysUptoCard

/-- THE SECOND FORM's CARD OF 'gleanerlaw16.MarkWhole'. -/
def markWholeUptoCard : Claim7 := { stood := { row := markWholeUptoRow, standIns := [], harness := (true, "c7bd444387cb8c728ce91cf8d5bb4e0baf30441bdd1b464d6aee8a6863ac5b33"), looks := false }, kinds := [], alts := [], laidByText := true, laidKinds := [.data, .data, .data, .pinned], laidTests := true, laidLooks := .later }
def MarkWholeUptoCardSaid : Prop := Claim7.holds Tryz.pinned (.plain (OpenSpec.upto markWholeSpec)) markWholeUptoCard

/-- THE SECOND FORM's CARD OF 'gleanerlaw16.MarkNil'. -/
def markNilUptoCard : Claim7 := { stood := { row := markNilUptoRow, standIns := [], harness := (true, "c7bd444387cb8c728ce91cf8d5bb4e0baf30441bdd1b464d6aee8a6863ac5b33"), looks := false }, kinds := [], alts := [], laidByText := true, laidKinds := [.data, .pinned], laidTests := true, laidLooks := .later }
def MarkNilUptoCardSaid : Prop := Claim7.holds Tryz.pinned (.plain (OpenSpec.upto markNilSpec)) markNilUptoCard
end Rows
end Go.Proofs.YtjdlffmiokobnaaGreatDoor
