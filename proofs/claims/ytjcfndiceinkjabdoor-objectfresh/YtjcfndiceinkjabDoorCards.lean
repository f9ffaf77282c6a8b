/-
  DERIVED. GIVEN WITH THE SEED: THE CARDS: each row of YtjcfndiceinkjabDoorRows.lean that lists a variable, with what it lists TIED to the program's text (the seventh form; the later family's looks); each row that meets fmt, with fmt's text TOLD by the authors' own Lean function (tested against real Go, not proved from fmt's source: count such statements apart). THE CARD IS WHAT COUNTS. Prove the row's statement (the work); the ties are given (YtjcfndiceinkjabDoorTie.lean); close each card by the builder's one call (the guide's Derived/Test/ToyasCard.lean, 'card_holds'). Laid BY PROGRAM, IN A SANDBOX (cutbox-door.mjs). By AI agents, Wed Nov 11 2026. No macro, syntax, notation, axiom, sorry.
-/
import Derived.Test.YtjcfndiceinkjabDoorRows
import GoSem.ClaimSeven
namespace Go.Proofs.YtjcfndiceinkjabDoor
namespace Rows

/-- THE TIED CARD OF 'gleanerlaw04.ObjectBack'. -/
def objectBackCard : Claim7 := { stood := { row := objectBackRow, standIns := [], harness := (true, "60d735b5b01911bea0954c497b52dee0b03f3b57314d0bb9bb93c12371ab2c1d"), looks := false }, kinds := [], alts := [], laidByText := true, laidKinds := [.data, .data, .data, .data, .pinned], laidTests := true, laidLooks := .later }
def ObjectBackCardSaid : Prop := Claim7.holds Tryd.pinned (.plain (OpenSpec.ofChange objectBackSpec)) objectBackCard

/-- THE TIED CARD OF 'gleanerlaw04.ObjectUnlike'. -/
def objectUnlikeCard : Claim7 := { stood := { row := objectUnlikeRow, standIns := [], harness := (true, "60d735b5b01911bea0954c497b52dee0b03f3b57314d0bb9bb93c12371ab2c1d"), looks := false }, kinds := [], alts := [], laidByText := true, laidKinds := [.data, .pinned], laidTests := true, laidLooks := .later }
def ObjectUnlikeCardSaid : Prop := Claim7.holds Tryd.pinned (.plain (OpenSpec.ofChange objectUnlikeSpec)) objectUnlikeCard

/-- THE TIED CARD OF 'gleanerlaw04.ObjectFresh'. -/
def objectFreshCard : Claim7 := { stood := { row := objectFreshRow, standIns := [], harness := (true, "60d735b5b01911bea0954c497b52dee0b03f3b57314d0bb9bb93c12371ab2c1d"), looks := false }, kinds := [], alts := [], laidByText := true, laidKinds := [.data, .pinned], laidTests := true, laidLooks := .later }
def ObjectFreshCardSaid : Prop := Claim7.holds Tryd.pinned (.plain (OpenSpec.ofChange objectFreshSpec)) objectFreshCard

/-- THE SECOND FORM's CARD OF 'gleanerlaw04.ObjectBack'. -/
def objectBackUptoCard : Claim7 := { stood := { row := objectBackUptoRow, standIns := [], harness := (true, "60d735b5b01911bea0954c497b52dee0b03f3b57314d0bb9bb93c12371ab2c1d"), looks := false }, kinds := [], alts := [], laidByText := true, laidKinds := [.data, .data, .data, .data, .pinned], laidTests := true, laidLooks := .later }
def ObjectBackUptoCardSaid : Prop := Claim7.holds Tryd.pinned (.plain (OpenSpec.upto objectBackSpec)) objectBackUptoCard

/-- THE SECOND FORM's CARD OF 'gleanerlaw04.ObjectUnlike'. -/
def objectUnlikeUptoCard : Claim7 := { stood := { row := objectUnlikeUptoRow, standIns := [], harness := (true, "60d735b5b01911bea0954c497b52dee0b03f3b57314d0bb9bb93c12371ab2c1d"), looks := false }, kinds := [], alts := [], laidByText := true, laidKinds := [.data, .pinned], laidTests := true, laidLooks := .later }
def ObjectUnlikeUptoCardSaid : Prop := Claim7.holds Tryd.pinned (.plain (OpenSpec.upto objectUnlikeSpec)) objectUnlikeUptoCard

/-- THE SECOND FORM's CARD OF 'gleanerlaw04.ObjectFresh'. -/
def objectFreshUptoCard : Claim7 := { stood := { row := objectFreshUptoRow, standIns := [], harness := (true, "60d735b5b01911bea0954c497b52dee0b03f3b57314d0bb9bb93c12371ab2c1d"), looks := false }, kinds := [], alts := [], laidByText := true, laidKinds := [.data, .pinned], laidTests := true, laidLooks := .later }
def ObjectFreshUptoCardSaid : Prop := Claim7.holds Tryd.pinned (.plain (OpenSpec.upto objectFreshSpec)) objectFreshUptoCard
end Rows
end Go.Proofs.YtjcfndiceinkjabDoor
