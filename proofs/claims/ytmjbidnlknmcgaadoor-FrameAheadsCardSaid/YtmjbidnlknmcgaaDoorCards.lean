/-
  DERIVED. GIVEN WITH THE SEED: THE CARDS: each row of YtmjbidnlknmcgaaDoorRows.lean that lists a variable, with what it lists TIED to the program's text (the seventh form; the later family's looks); each row that meets fmt, with fmt's text TOLD by the authors' own Lean function (tested against real Go, not proved from fmt's source: count such statements apart). THE CARD IS WHAT COUNTS. Prove the row's statement (the work); the ties are given (YtmjbidnlknmcgaaDoorTie.lean); close each card by the builder's one call (the guide's Derived/Test/ToyasCard.lean, 'card_holds'). Laid BY PROGRAM, IN A SANDBOX (cutbox-door.mjs). By AI agents, Wed Nov 11 2026. No macro, syntax, notation, axiom, sorry.
-/
import Derived.Test.YtmjbidnlknmcgaaDoorRows
import GoSem.ClaimSeven
namespace Go.Proofs.YtmjbidnlknmcgaaDoor
namespace Rows

/-- THE TIED CARD OF 'kingpinlaw01.FrameBads'. -/
def frameBadsCard : Claim7 := { stood := { row := frameBadsRow, standIns := [], harness := (true, "a66f936dd313ec0b3b774961a9c7f266eda39370b23c596a123bc58e6b1306a4"), looks := false }, kinds := [], alts := [], laidByText := true, laidKinds := [.data], laidTests := true, laidLooks := .later }
def FrameBadsCardSaid : Prop := Claim7.holds Tryd.pinned (.plain (OpenSpec.ofChange frameBadsSpec)) frameBadsCard

/-- THE TIED CARD OF 'kingpinlaw01.FrameReads'. -/
def frameReadsCard : Claim7 := { stood := { row := frameReadsRow, standIns := [], harness := (true, "a66f936dd313ec0b3b774961a9c7f266eda39370b23c596a123bc58e6b1306a4"), looks := false }, kinds := [], alts := [], laidByText := true, laidKinds := [.data], laidTests := true, laidLooks := .later }
def FrameReadsCardSaid : Prop := Claim7.holds Tryd.pinned (.plain (OpenSpec.ofChange frameReadsSpec)) frameReadsCard

/-- THE TIED CARD OF 'kingpinlaw01.FrameSpans'. -/
def frameSpansCard : Claim7 := { stood := { row := frameSpansRow, standIns := [], harness := (true, "a66f936dd313ec0b3b774961a9c7f266eda39370b23c596a123bc58e6b1306a4"), looks := false }, kinds := [], alts := [], laidByText := true, laidKinds := [.data], laidTests := true, laidLooks := .later }
def FrameSpansCardSaid : Prop := Claim7.holds Tryd.pinned (.plain (OpenSpec.ofChange frameSpansSpec)) frameSpansCard

/-- THE TIED CARD OF 'kingpinlaw01.FrameShows'. -/
def frameShowsCard : Claim7 := { stood := { row := frameShowsRow, standIns := [], harness := (true, "a66f936dd313ec0b3b774961a9c7f266eda39370b23c596a123bc58e6b1306a4"), looks := false }, kinds := [], alts := [], laidByText := true, laidKinds := [.data], laidTests := true, laidLooks := .later }
def FrameShowsCardSaid : Prop := Claim7.holds Tryd.pinned (.plain (OpenSpec.ofChange frameShowsSpec)) frameShowsCard

/-- THE TIED CARD OF 'kingpinlaw01.FrameAheads'. -/
def frameAheadsCard : Claim7 := { stood := { row := frameAheadsRow, standIns := [], harness := (true, "a66f936dd313ec0b3b774961a9c7f266eda39370b23c596a123bc58e6b1306a4"), looks := false }, kinds := [], alts := [], laidByText := true, laidKinds := [.data], laidTests := true, laidLooks := .later }
def FrameAheadsCardSaid : Prop := Claim7.holds Tryd.pinned (.plain (OpenSpec.ofChange frameAheadsSpec)) frameAheadsCard

/-- THE TIED CARD OF 'kingpinlaw01.FrameNames'. -/
def frameNamesCard : Claim7 := { stood := { row := frameNamesRow, standIns := [], harness := (true, "a66f936dd313ec0b3b774961a9c7f266eda39370b23c596a123bc58e6b1306a4"), looks := false }, kinds := [], alts := [], laidByText := true, laidKinds := [.data], laidTests := true, laidLooks := .later }
def FrameNamesCardSaid : Prop := Claim7.holds Tryd.pinned (.plain (OpenSpec.ofChange frameNamesSpec)) frameNamesCard

/-- THE TIED CARD OF 'kingpinlaw01.FrameEndings'. -/
def frameEndingsCard : Claim7 := { stood := { row := frameEndingsRow, standIns := [], harness := (true, "a66f936dd313ec0b3b774961a9c7f266eda39370b23c596a123bc58e6b1306a4"), looks := false }, kinds := [], alts := [], laidByText := true, laidKinds := [.data], laidTests := true, laidLooks := .later }
def FrameEndingsCardSaid : Prop := Claim7.holds Tryd.pinned (.plain (OpenSpec.ofChange frameEndingsSpec)) frameEndingsCard

/-- THE TIED CARD OF 'kingpinlaw01.FrameFirst'. -/
def frameFirstCard : Claim7 := { stood := { row := frameFirstRow, standIns := [], harness := (true, "a66f936dd313ec0b3b774961a9c7f266eda39370b23c596a123bc58e6b1306a4"), looks := false }, kinds := [], alts := [], laidByText := true, laidKinds := [.data], laidTests := true, laidLooks := .later }
def FrameFirstCardSaid : Prop := Claim7.holds Tryd.pinned (.plain (OpenSpec.ofChange frameFirstSpec)) frameFirstCard

/-- THE TIED CARD OF 'kingpinlaw01.FrameSettled'. -/
def frameSettledCard : Claim7 := { stood := { row := frameSettledRow, standIns := [], harness := (true, "a66f936dd313ec0b3b774961a9c7f266eda39370b23c596a123bc58e6b1306a4"), looks := false }, kinds := [], alts := [], laidByText := true, laidKinds := [.data], laidTests := true, laidLooks := .later }
def FrameSettledCardSaid : Prop := Claim7.holds Tryd.pinned (.plain (OpenSpec.ofChange frameSettledSpec)) frameSettledCard

/-- THE TIED CARD OF 'kingpinlaw01.FrameFouls'. -/
def frameFoulsCard : Claim7 := { stood := { row := frameFoulsRow, standIns := [], harness := (true, "a66f936dd313ec0b3b774961a9c7f266eda39370b23c596a123bc58e6b1306a4"), looks := false }, kinds := [], alts := [], laidByText := true, laidKinds := [.data], laidTests := true, laidLooks := .later }
def FrameFoulsCardSaid : Prop := Claim7.holds Tryd.pinned (.plain (OpenSpec.ofChange frameFoulsSpec)) frameFoulsCard

/-- THE TIED CARD OF 'kingpinlaw01.FrameGreatest'. -/
def frameGreatestCard : Claim7 := { stood := { row := frameGreatestRow, standIns := [], harness := (true, "a66f936dd313ec0b3b774961a9c7f266eda39370b23c596a123bc58e6b1306a4"), looks := false }, kinds := [], alts := [], laidByText := true, laidKinds := [.data], laidTests := true, laidLooks := .later }
def FrameGreatestCardSaid : Prop := Claim7.holds Tryd.pinned (.plain (OpenSpec.ofChange frameGreatestSpec)) frameGreatestCard

/-- THE TIED CARD OF 'kingpinlaw01.FrameSpares'. -/
def frameSparesCard : Claim7 := { stood := { row := frameSparesRow, standIns := [], harness := (true, "a66f936dd313ec0b3b774961a9c7f266eda39370b23c596a123bc58e6b1306a4"), looks := false }, kinds := [], alts := [], laidByText := true, laidKinds := [.data], laidTests := true, laidLooks := .later }
def FrameSparesCardSaid : Prop := Claim7.holds Tryd.pinned (.plain (OpenSpec.ofChange frameSparesSpec)) frameSparesCard

/-- THE SECOND FORM's CARD OF 'kingpinlaw01.FrameBads'. -/
def frameBadsUptoCard : Claim7 := { stood := { row := frameBadsUptoRow, standIns := [], harness := (true, "a66f936dd313ec0b3b774961a9c7f266eda39370b23c596a123bc58e6b1306a4"), looks := false }, kinds := [], alts := [], laidByText := true, laidKinds := [.data], laidTests := true, laidLooks := .later }
def FrameBadsUptoCardSaid : Prop := Claim7.holds Tryd.pinned (.plain (OpenSpec.upto frameBadsSpec)) frameBadsUptoCard

/-- THE SECOND FORM's CARD OF 'kingpinlaw01.FrameReads'. -/
def frameReadsUptoCard : Claim7 := { stood := { row := frameReadsUptoRow, standIns := [], harness := (true, "a66f936dd313ec0b3b774961a9c7f266eda39370b23c596a123bc58e6b1306a4"), looks := false }, kinds := [], alts := [], laidByText := true, laidKinds := [.data], laidTests := true, laidLooks := .later }
def FrameReadsUptoCardSaid : Prop := Claim7.holds Tryd.pinned (.plain (OpenSpec.upto frameReadsSpec)) frameReadsUptoCard

/-- THE SECOND FORM's CARD OF 'kingpinlaw01.FrameSpans'. -/
def frameSpansUptoCard : Claim7 := { stood := { row := frameSpansUptoRow, standIns := [], harness := (true, "a66f936dd313ec0b3b774961a9c7f266eda39370b23c596a123bc58e6b1306a4"), looks := false }, kinds := [], alts := [], laidByText := true, laidKinds := [.data], laidTests := true, laidLooks := .later }
def FrameSpansUptoCardSaid : Prop := Claim7.holds Tryd.pinned (.plain (OpenSpec.upto frameSpansSpec)) frameSpansUptoCard

/-- THE SECOND FORM's CARD OF 'kingpinlaw01.FrameShows'. -/
def frameShowsUptoCard : Claim7 := { stood := { row := frameShowsUptoRow, standIns := [], harness := (true, "a66f936dd313ec0b3b774961a9c7f266eda39370b23c596a123bc58e6b1306a4"), looks := false }, kinds := [], alts := [], laidByText := true, laidKinds := [.data], laidTests := true, laidLooks := .later }
def FrameShowsUptoCardSaid : Prop := Claim7.holds Tryd.pinned (.plain (OpenSpec.upto frameShowsSpec)) frameShowsUptoCard

/-- THE SECOND FORM's CARD OF 'kingpinlaw01.FrameAheads'. -/
def frameAheadsUptoCard : Claim7 := { stood := { row := frameAheadsUptoRow, standIns := [], harness := (true, "a66f936dd313ec0b3b774961a9c7f266eda39370b23c596a123bc58e6b1306a4"), looks := false }, kinds := [], alts := [], laidByText := true, laidKinds := [.data], laidTests := true, laidLooks := .later }
def FrameAheadsUptoCardSaid : Prop := Claim7.holds Tryd.pinned (.plain (OpenSpec.upto frameAheadsSpec)) frameAheadsUptoCard

/-- THE SECOND FORM's CARD OF 'kingpinlaw01.FrameNames'. -/
def frameNamesUptoCard : Claim7 := { stood := { row := frameNamesUptoRow, standIns := [], harness := (true, "a66f936dd313ec0b3b774961a9c7f266eda39370b23c596a123bc58e6b1306a4"), looks := false }, kinds := [], alts := [], laidByText := true, laidKinds := [.data], laidTests := true, laidLooks := .later }
def FrameNamesUptoCardSaid : Prop := Claim7.holds Tryd.pinned (.plain (OpenSpec.upto frameNamesSpec)) frameNamesUptoCard

/-- THE SECOND FORM's CARD OF 'kingpinlaw01.FrameEndings'. -/
def frameEndingsUptoCard : Claim7 := { stood := { row := frameEndingsUptoRow, standIns := [], harness := (true, "a66f936dd313ec0b3b774961a9c7f266eda39370b23c596a123bc58e6b1306a4"), looks := false }, kinds := [], alts := [], laidByText := true, laidKinds := [.data], laidTests := true, laidLooks := .later }
def FrameEndingsUptoCardSaid : Prop := Claim7.holds Tryd.pinned (.plain (OpenSpec.upto frameEndingsSpec)) frameEndingsUptoCard

/-- THE SECOND FORM's CARD OF 'kingpinlaw01.FrameFirst'. -/
def frameFirstUptoCard : Claim7 := { stood := { row := frameFirstUptoRow, standIns := [], harness := (true, "a66f936dd313ec0b3b774961a9c7f266eda39370b23c596a123bc58e6b1306a4"), looks := false }, kinds := [], alts := [], laidByText := true, laidKinds := [.data], laidTests := true, laidLooks := .later }
def FrameFirstUptoCardSaid : Prop := Claim7.holds Tryd.pinned (.plain (OpenSpec.upto frameFirstSpec)) frameFirstUptoCard

/-- THE SECOND FORM's CARD OF 'kingpinlaw01.FrameSettled'. -/
def frameSettledUptoCard : Claim7 := { stood := { row := frameSettledUptoRow, standIns := [], harness := (true, "a66f936dd313ec0b3b774961a9c7f266eda39370b23c596a123bc58e6b1306a4"), looks := false }, kinds := [], alts := [], laidByText := true, laidKinds := [.data], laidTests := true, laidLooks := .later }
def FrameSettledUptoCardSaid : Prop := Claim7.holds Tryd.pinned (.plain (OpenSpec.upto frameSettledSpec)) frameSettledUptoCard

/-- THE SECOND FORM's CARD OF 'kingpinlaw01.FrameFouls'. -/
def frameFoulsUptoCard : Claim7 := { stood := { row := frameFoulsUptoRow, standIns := [], harness := (true, "a66f936dd313ec0b3b774961a9c7f266eda39370b23c596a123bc58e6b1306a4"), looks := false }, kinds := [], alts := [], laidByText := true, laidKinds := [.data], laidTests := true, laidLooks := .later }
def FrameFoulsUptoCardSaid : Prop := Claim7.holds Tryd.pinned (.plain (OpenSpec.upto frameFoulsSpec)) frameFoulsUptoCard

/-- THE SECOND FORM's CARD OF 'kingpinlaw01.FrameGreatest'. -/
def frameGreatestUptoCard : Claim7 := { stood := { row := frameGreatestUptoRow, standIns := [], harness := (true, "a66f936dd313ec0b3b774961a9c7f266eda39370b23c596a123bc58e6b1306a4"), looks := false }, kinds := [], alts := [], laidByText := true, laidKinds := [.data], laidTests := true, laidLooks := .later }
def FrameGreatestUptoCardSaid : Prop := Claim7.holds Tryd.pinned (.plain (OpenSpec.upto frameGreatestSpec)) frameGreatestUptoCard

/-- THE SECOND FORM's CARD OF 'kingpinlaw01.FrameSpares'. -/
def frameSparesUptoCard : Claim7 := { stood := { row := frameSparesUptoRow, standIns := [], harness := (true, "a66f936dd313ec0b3b774961a9c7f266eda39370b23c596a123bc58e6b1306a4"), looks := false }, kinds := [], alts := [], laidByText := true, laidKinds := [.data], laidTests := true, laidLooks := .later }
def FrameSparesUptoCardSaid : Prop := Claim7.holds Tryd.pinned (.plain (OpenSpec.upto frameSparesSpec)) frameSparesUptoCard
end Rows
end Go.Proofs.YtmjbidnlknmcgaaDoor
