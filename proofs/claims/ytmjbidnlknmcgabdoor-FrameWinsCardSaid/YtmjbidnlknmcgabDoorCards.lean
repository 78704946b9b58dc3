/-
  DERIVED. GIVEN WITH THE SEED: THE CARDS: each row of YtmjbidnlknmcgabDoorRows.lean that lists a variable, with what it lists TIED to the program's text (the seventh form; the later family's looks); each row that meets fmt, with fmt's text TOLD by the authors' own Lean function (tested against real Go, not proved from fmt's source: count such statements apart). THE CARD IS WHAT COUNTS. Prove the row's statement (the work); the ties are given (YtmjbidnlknmcgabDoorTie.lean); close each card by the builder's one call (the guide's Derived/Test/ToyasCard.lean, 'card_holds'). Laid BY PROGRAM, IN A SANDBOX (cutbox-door.mjs). By AI agents, Wed Nov 11 2026. No macro, syntax, notation, axiom, sorry.
-/
import Derived.Test.YtmjbidnlknmcgabDoorRows
import GoSem.ClaimSeven
namespace Go.Proofs.YtmjbidnlknmcgabDoor
namespace Rows

/-- THE TIED CARD OF 'kingpinlaw01.FrameWins'. -/
def frameWinsCard : Claim7 := { stood := { row := frameWinsRow, standIns := [], harness := (true, "4ffa6d8fcb94f7a4c6812d945bac4a000acc9f9a2dc7cd820e8b834ea9d938f6"), looks := false }, kinds := [], alts := [], laidByText := true, laidKinds := [.data], laidTests := true, laidLooks := .later }
def FrameWinsCardSaid : Prop := Claim7.holds Tryd.pinned (.plain (OpenSpec.ofChange frameWinsSpec)) frameWinsCard

/-- THE TIED CARD OF 'kingpinlaw01.FrameTaps'. -/
def frameTapsCard : Claim7 := { stood := { row := frameTapsRow, standIns := [], harness := (true, "4ffa6d8fcb94f7a4c6812d945bac4a000acc9f9a2dc7cd820e8b834ea9d938f6"), looks := false }, kinds := [], alts := [], laidByText := true, laidKinds := [.data], laidTests := true, laidLooks := .later }
def FrameTapsCardSaid : Prop := Claim7.holds Tryd.pinned (.plain (OpenSpec.ofChange frameTapsSpec)) frameTapsCard

/-- THE SECOND FORM's CARD OF 'kingpinlaw01.FrameWins'. -/
def frameWinsUptoCard : Claim7 := { stood := { row := frameWinsUptoRow, standIns := [], harness := (true, "4ffa6d8fcb94f7a4c6812d945bac4a000acc9f9a2dc7cd820e8b834ea9d938f6"), looks := false }, kinds := [], alts := [], laidByText := true, laidKinds := [.data], laidTests := true, laidLooks := .later }
def FrameWinsUptoCardSaid : Prop := Claim7.holds Tryd.pinned (.plain (OpenSpec.upto frameWinsSpec)) frameWinsUptoCard

/-- THE SECOND FORM's CARD OF 'kingpinlaw01.FrameTaps'. -/
def frameTapsUptoCard : Claim7 := { stood := { row := frameTapsUptoRow, standIns := [], harness := (true, "4ffa6d8fcb94f7a4c6812d945bac4a000acc9f9a2dc7cd820e8b834ea9d938f6"), looks := false }, kinds := [], alts := [], laidByText := true, laidKinds := [.data], laidTests := true, laidLooks := .later }
def FrameTapsUptoCardSaid : Prop := Claim7.holds Tryd.pinned (.plain (OpenSpec.upto frameTapsSpec)) frameTapsUptoCard
end Rows
end Go.Proofs.YtmjbidnlknmcgabDoor
