/-
  DERIVED. GIVEN WITH THE SEED: THE CARDS: each row of YtaloffdkadhhnaaDoorRows.lean that lists a variable, with what it lists TIED to the program's text (the seventh form; the later family's looks); each row that meets fmt, with fmt's text TOLD by the authors' own Lean function (tested against real Go, not proved from fmt's source: count such statements apart). THE CARD IS WHAT COUNTS. Prove the row's statement (the work); the ties are given (YtaloffdkadhhnaaDoorTie.lean); close each card by the builder's one call (the guide's Derived/Test/ToyasCard.lean, 'card_holds'). Laid BY PROGRAM, IN A SANDBOX (cutbox-door.mjs). By AI agents, Wed Nov 11 2026. No macro, syntax, notation, axiom, sorry.
-/
import Derived.Test.YtaloffdkadhhnaaDoorRows
import GoSem.ClaimSeven
namespace Go.Proofs.YtaloffdkadhhnaaDoor
namespace Rows

/-- THE TIED CARD OF 'kingpinlaw02.RackKinds'. -/
def rackKindsCard : Claim7 := { stood := { row := rackKindsRow, standIns := [], harness := (true, "1b2694aa29309c032bae00cd4f2d437dcd1d4c33af43b672871c2a96e49026e5"), looks := false }, kinds := [], alts := [], laidByText := true, laidKinds := [.data], laidTests := true, laidLooks := .later }
def RackKindsCardSaid : Prop := Claim7.holds Tryd.pinned (.plain (OpenSpec.ofChange rackKindsSpec)) rackKindsCard

/-- THE TIED CARD OF 'kingpinlaw02.RackHits'. -/
def rackHitsCard : Claim7 := { stood := { row := rackHitsRow, standIns := [], harness := (true, "1b2694aa29309c032bae00cd4f2d437dcd1d4c33af43b672871c2a96e49026e5"), looks := false }, kinds := [], alts := [], laidByText := true, laidKinds := [.data], laidTests := true, laidLooks := .later }
def RackHitsCardSaid : Prop := Claim7.holds Tryd.pinned (.plain (OpenSpec.ofChange rackHitsSpec)) rackHitsCard

/-- THE TIED CARD OF 'kingpinlaw02.RackFalls'. -/
def rackFallsCard : Claim7 := { stood := { row := rackFallsRow, standIns := [], harness := (true, "1b2694aa29309c032bae00cd4f2d437dcd1d4c33af43b672871c2a96e49026e5"), looks := false }, kinds := [], alts := [], laidByText := true, laidKinds := [.data], laidTests := true, laidLooks := .later }
def RackFallsCardSaid : Prop := Claim7.holds Tryd.pinned (.plain (OpenSpec.ofChange rackFallsSpec)) rackFallsCard

/-- THE TIED CARD OF 'kingpinlaw02.RackConverts'. -/
def rackConvertsCard : Claim7 := { stood := { row := rackConvertsRow, standIns := [], harness := (true, "1b2694aa29309c032bae00cd4f2d437dcd1d4c33af43b672871c2a96e49026e5"), looks := false }, kinds := [], alts := [], laidByText := true, laidKinds := [.data], laidTests := true, laidLooks := .later }
def RackConvertsCardSaid : Prop := Claim7.holds Tryd.pinned (.plain (OpenSpec.ofChange rackConvertsSpec)) rackConvertsCard

/-- THE TIED CARD OF 'kingpinlaw02.RackNames'. -/
def rackNamesCard : Claim7 := { stood := { row := rackNamesRow, standIns := [], harness := (true, "1b2694aa29309c032bae00cd4f2d437dcd1d4c33af43b672871c2a96e49026e5"), looks := false }, kinds := [], alts := [], laidByText := true, laidKinds := [.data], laidTests := true, laidLooks := .later }
def RackNamesCardSaid : Prop := Claim7.holds Tryd.pinned (.plain (OpenSpec.ofChange rackNamesSpec)) rackNamesCard

/-- THE TIED CARD OF 'kingpinlaw02.RackTruth'. -/
def rackTruthCard : Claim7 := { stood := { row := rackTruthRow, standIns := [], harness := (true, "1b2694aa29309c032bae00cd4f2d437dcd1d4c33af43b672871c2a96e49026e5"), looks := false }, kinds := [], alts := [], laidByText := true, laidKinds := [.data], laidTests := true, laidLooks := .later }
def RackTruthCardSaid : Prop := Claim7.holds Tryd.pinned (.plain (OpenSpec.ofChange rackTruthSpec)) rackTruthCard

/-- THE TIED CARD OF 'kingpinlaw02.RackSure'. -/
def rackSureCard : Claim7 := { stood := { row := rackSureRow, standIns := [], harness := (true, "1b2694aa29309c032bae00cd4f2d437dcd1d4c33af43b672871c2a96e49026e5"), looks := false }, kinds := [], alts := [], laidByText := true, laidKinds := [.data], laidTests := true, laidLooks := .later }
def RackSureCardSaid : Prop := Claim7.holds Tryd.pinned (.plain (OpenSpec.ofChange rackSureSpec)) rackSureCard

/-- THE TIED CARD OF 'kingpinlaw02.RackWider'. -/
def rackWiderCard : Claim7 := { stood := { row := rackWiderRow, standIns := [], harness := (true, "1b2694aa29309c032bae00cd4f2d437dcd1d4c33af43b672871c2a96e49026e5"), looks := false }, kinds := [], alts := [], laidByText := true, laidKinds := [.data], laidTests := true, laidLooks := .later }
def RackWiderCardSaid : Prop := Claim7.holds Tryd.pinned (.plain (OpenSpec.ofChange rackWiderSpec)) rackWiderCard

/-- THE TIED CARD OF 'kingpinlaw02.RackTurned'. -/
def rackTurnedCard : Claim7 := { stood := { row := rackTurnedRow, standIns := [], harness := (true, "1b2694aa29309c032bae00cd4f2d437dcd1d4c33af43b672871c2a96e49026e5"), looks := false }, kinds := [], alts := [], laidByText := true, laidKinds := [.data], laidTests := true, laidLooks := .later }
def RackTurnedCardSaid : Prop := Claim7.holds Tryd.pinned (.plain (OpenSpec.ofChange rackTurnedSpec)) rackTurnedCard

/-- THE TIED CARD OF 'kingpinlaw02.RackStraight'. -/
def rackStraightCard : Claim7 := { stood := { row := rackStraightRow, standIns := [], harness := (true, "1b2694aa29309c032bae00cd4f2d437dcd1d4c33af43b672871c2a96e49026e5"), looks := false }, kinds := [], alts := [], laidByText := true, laidKinds := [.data], laidTests := true, laidLooks := .later }
def RackStraightCardSaid : Prop := Claim7.holds Tryd.pinned (.plain (OpenSpec.ofChange rackStraightSpec)) rackStraightCard

/-- THE TIED CARD OF 'kingpinlaw02.RackMore'. -/
def rackMoreCard : Claim7 := { stood := { row := rackMoreRow, standIns := [], harness := (true, "1b2694aa29309c032bae00cd4f2d437dcd1d4c33af43b672871c2a96e49026e5"), looks := false }, kinds := [], alts := [], laidByText := true, laidKinds := [.data], laidTests := true, laidLooks := .later }
def RackMoreCardSaid : Prop := Claim7.holds Tryd.pinned (.plain (OpenSpec.ofChange rackMoreSpec)) rackMoreCard

/-- THE TIED CARD OF 'kingpinlaw02.RackLaw'. -/
def rackLawCard : Claim7 := { stood := { row := rackLawRow, standIns := [], harness := (true, "1b2694aa29309c032bae00cd4f2d437dcd1d4c33af43b672871c2a96e49026e5"), looks := false }, kinds := [], alts := [], laidByText := true, laidKinds := [.data], laidTests := true, laidLooks := .later }
def RackLawCardSaid : Prop := Claim7.holds Tryd.pinned (.plain (OpenSpec.ofChange rackLawSpec)) rackLawCard

/-- THE SECOND FORM's CARD OF 'kingpinlaw02.RackKinds'. -/
def rackKindsUptoCard : Claim7 := { stood := { row := rackKindsUptoRow, standIns := [], harness := (true, "1b2694aa29309c032bae00cd4f2d437dcd1d4c33af43b672871c2a96e49026e5"), looks := false }, kinds := [], alts := [], laidByText := true, laidKinds := [.data], laidTests := true, laidLooks := .later }
def RackKindsUptoCardSaid : Prop := Claim7.holds Tryd.pinned (.plain (OpenSpec.upto rackKindsSpec)) rackKindsUptoCard

/-- THE SECOND FORM's CARD OF 'kingpinlaw02.RackHits'. -/
def rackHitsUptoCard : Claim7 := { stood := { row := rackHitsUptoRow, standIns := [], harness := (true, "1b2694aa29309c032bae00cd4f2d437dcd1d4c33af43b672871c2a96e49026e5"), looks := false }, kinds := [], alts := [], laidByText := true, laidKinds := [.data], laidTests := true, laidLooks := .later }
def RackHitsUptoCardSaid : Prop := Claim7.holds Tryd.pinned (.plain (OpenSpec.upto rackHitsSpec)) rackHitsUptoCard

/-- THE SECOND FORM's CARD OF 'kingpinlaw02.RackFalls'. -/
def rackFallsUptoCard : Claim7 := { stood := { row := rackFallsUptoRow, standIns := [], harness := (true, "1b2694aa29309c032bae00cd4f2d437dcd1d4c33af43b672871c2a96e49026e5"), looks := false }, kinds := [], alts := [], laidByText := true, laidKinds := [.data], laidTests := true, laidLooks := .later }
def RackFallsUptoCardSaid : Prop := Claim7.holds Tryd.pinned (.plain (OpenSpec.upto rackFallsSpec)) rackFallsUptoCard

/-- THE SECOND FORM's CARD OF 'kingpinlaw02.RackConverts'. -/
def rackConvertsUptoCard : Claim7 := { stood := { row := rackConvertsUptoRow, standIns := [], harness := (true, "1b2694aa29309c032bae00cd4f2d437dcd1d4c33af43b672871c2a96e49026e5"), looks := false }, kinds := [], alts := [], laidByText := true, laidKinds := [.data], laidTests := true, laidLooks := .later }
def RackConvertsUptoCardSaid : Prop := Claim7.holds Tryd.pinned (.plain (OpenSpec.upto rackConvertsSpec)) rackConvertsUptoCard

/-- THE SECOND FORM's CARD OF 'kingpinlaw02.RackNames'. -/
def rackNamesUptoCard : Claim7 := { stood := { row := rackNamesUptoRow, standIns := [], harness := (true, "1b2694aa29309c032bae00cd4f2d437dcd1d4c33af43b672871c2a96e49026e5"), looks := false }, kinds := [], alts := [], laidByText := true, laidKinds := [.data], laidTests := true, laidLooks := .later }
def RackNamesUptoCardSaid : Prop := Claim7.holds Tryd.pinned (.plain (OpenSpec.upto rackNamesSpec)) rackNamesUptoCard

/-- THE SECOND FORM's CARD OF 'kingpinlaw02.RackTruth'. -/
def rackTruthUptoCard : Claim7 := { stood := { row := rackTruthUptoRow, standIns := [], harness := (true, "1b2694aa29309c032bae00cd4f2d437dcd1d4c33af43b672871c2a96e49026e5"), looks := false }, kinds := [], alts := [], laidByText := true, laidKinds := [.data], laidTests := true, laidLooks := .later }
def RackTruthUptoCardSaid : Prop := Claim7.holds Tryd.pinned (.plain (OpenSpec.upto rackTruthSpec)) rackTruthUptoCard

/-- THE SECOND FORM's CARD OF 'kingpinlaw02.RackSure'. -/
def rackSureUptoCard : Claim7 := { stood := { row := rackSureUptoRow, standIns := [], harness := (true, "1b2694aa29309c032bae00cd4f2d437dcd1d4c33af43b672871c2a96e49026e5"), looks := false }, kinds := [], alts := [], laidByText := true, laidKinds := [.data], laidTests := true, laidLooks := .later }
def RackSureUptoCardSaid : Prop := Claim7.holds Tryd.pinned (.plain (OpenSpec.upto rackSureSpec)) rackSureUptoCard

/-- THE SECOND FORM's CARD OF 'kingpinlaw02.RackWider'. -/
def rackWiderUptoCard : Claim7 := { stood := { row := rackWiderUptoRow, standIns := [], harness := (true, "1b2694aa29309c032bae00cd4f2d437dcd1d4c33af43b672871c2a96e49026e5"), looks := false }, kinds := [], alts := [], laidByText := true, laidKinds := [.data], laidTests := true, laidLooks := .later }
def RackWiderUptoCardSaid : Prop := Claim7.holds Tryd.pinned (.plain (OpenSpec.upto rackWiderSpec)) rackWiderUptoCard

/-- THE SECOND FORM's CARD OF 'kingpinlaw02.RackTurned'. -/
def rackTurnedUptoCard : Claim7 := { stood := { row := rackTurnedUptoRow, standIns := [], harness := (true, "1b2694aa29309c032bae00cd4f2d437dcd1d4c33af43b672871c2a96e49026e5"), looks := false }, kinds := [], alts := [], laidByText := true, laidKinds := [.data], laidTests := true, laidLooks := .later }
def RackTurnedUptoCardSaid : Prop := Claim7.holds Tryd.pinned (.plain (OpenSpec.upto rackTurnedSpec)) rackTurnedUptoCard

/-- THE SECOND FORM's CARD OF 'kingpinlaw02.RackStraight'. -/
def rackStraightUptoCard : Claim7 := { stood := { row := rackStraightUptoRow, standIns := [], harness := (true, "1b2694aa29309c032bae00cd4f2d437dcd1d4c33af43b672871c2a96e49026e5"), looks := false }, kinds := [], alts := [], laidByText := true, laidKinds := [.data], laidTests := true, laidLooks := .later }
def RackStraightUptoCardSaid : Prop := Claim7.holds Tryd.pinned (.plain (OpenSpec.upto rackStraightSpec)) rackStraightUptoCard

/-- THE SECOND FORM's CARD OF 'kingpinlaw02.RackMore'. -/
def rackMoreUptoCard : Claim7 := { stood := { row := rackMoreUptoRow, standIns := [], harness := (true, "1b2694aa29309c032bae00cd4f2d437dcd1d4c33af43b672871c2a96e49026e5"), looks := false }, kinds := [], alts := [], laidByText := true, laidKinds := [.data], laidTests := true, laidLooks := .later }
def RackMoreUptoCardSaid : Prop := Claim7.holds Tryd.pinned (.plain (OpenSpec.upto rackMoreSpec)) rackMoreUptoCard

/-- THE SECOND FORM's CARD OF 'kingpinlaw02.RackLaw'. -/
def rackLawUptoCard : Claim7 := { stood := { row := rackLawUptoRow, standIns := [], harness := (true, "1b2694aa29309c032bae00cd4f2d437dcd1d4c33af43b672871c2a96e49026e5"), looks := false }, kinds := [], alts := [], laidByText := true, laidKinds := [.data], laidTests := true, laidLooks := .later }
def RackLawUptoCardSaid : Prop := Claim7.holds Tryd.pinned (.plain (OpenSpec.upto rackLawSpec)) rackLawUptoCard
end Rows
end Go.Proofs.YtaloffdkadhhnaaDoor
