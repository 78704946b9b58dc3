/-
  NARROWER THAN 'FOR EVERY INPUT', by the rows' own cells (each row's printed sentence says how): FrameBads: laid · FrameReads: laid · FrameSpans: laid · FrameShows: laid · FrameAheads: laid · FrameNames: laid · FrameEndings: laid · FrameFirst: laid · FrameSettled: laid · FrameFouls: laid · FrameGreatest: laid · FrameSpares: laid.
  DERIVED. THE GIVEN ROWS OF THIS SEAT. 12 by the template 'for every input the law returns true; each argument reads behind the call as it read before'; 0 by the template 'total and deterministic' (their statements: YtmjbidnlknmcgaaDoorTotals.lean).
  GIVEN WITH THE SEED: the statements are not yours to turn. If you find one false, say at which input.
  Laid BY PROGRAM, IN A SANDBOX (cutbox-rows.mjs): the forced cells as the released guide's own fill.sh prints them over the translation c4876227a369a95f… (all of the seat's roots in one cut). By AI agents, Wed Nov 11 2026. No macro, syntax, notation, axiom, sorry.
-/
import Derived.Test.YtmjbidnlknmcgaaDoorChecked
import GoSem.Claim
import GoSem.ClaimJoined
import GoSem.ClaimMapViews
import Derived.JoinedTies
import Derived.KernelRfl
namespace Go.Proofs.YtmjbidnlknmcgaaDoor
/- THE CELL 'sum', in the pinned program and in every row, IS THE sha256 OF THE DUMP (.gsa) THAT YtmjbidnlknmcgaaDoorProg.lean LOADS. Nothing in Lean hashes anything: it is a label: what it is worth is what the hold of that sum in a sandbox is worth. -/
noncomputable def Tryd.pinned : Pinned := { name := "ytmjbidnlknmcgaadoor", sum := "c4876227a369a95f4cd75d3570baf61b0fc975a3f1cbc208abf8623685d88196", checked := Tryd.checked }
namespace Rows
def none {H : Type} : Left H := { results := [], args := [] }

/- WHAT THE LISTED PACKAGE-LEVEL VARIABLES READ AS WHEN THE CALL BEGINS. Each datum BY PROGRAM (the guide's laid-datum.mjs) off the statement by which the dump's own 'gosem.cut.vars' lays the variable. In a bare row this is a premise. The card (YtmjbidnlknmcgaaDoorCards.lean) ties it to the program's text. -/
def laid_math_bits_deBruijn64tab {H : Type} : DataW H := .agg [.lit (.int .u8 0), .lit (.int .u8 1), .lit (.int .u8 56), .lit (.int .u8 2), .lit (.int .u8 57), .lit (.int .u8 49), .lit (.int .u8 28), .lit (.int .u8 3), .lit (.int .u8 61), .lit (.int .u8 58), .lit (.int .u8 42), .lit (.int .u8 50), .lit (.int .u8 38), .lit (.int .u8 29), .lit (.int .u8 17), .lit (.int .u8 4), .lit (.int .u8 62), .lit (.int .u8 47), .lit (.int .u8 59), .lit (.int .u8 36), .lit (.int .u8 45), .lit (.int .u8 43), .lit (.int .u8 51), .lit (.int .u8 22), .lit (.int .u8 53), .lit (.int .u8 39), .lit (.int .u8 33), .lit (.int .u8 30), .lit (.int .u8 24), .lit (.int .u8 18), .lit (.int .u8 12), .lit (.int .u8 5), .lit (.int .u8 63), .lit (.int .u8 55), .lit (.int .u8 48), .lit (.int .u8 27), .lit (.int .u8 60), .lit (.int .u8 41), .lit (.int .u8 37), .lit (.int .u8 16), .lit (.int .u8 46), .lit (.int .u8 35), .lit (.int .u8 44), .lit (.int .u8 21), .lit (.int .u8 52), .lit (.int .u8 32), .lit (.int .u8 23), .lit (.int .u8 11), .lit (.int .u8 54), .lit (.int .u8 26), .lit (.int .u8 40), .lit (.int .u8 15), .lit (.int .u8 34), .lit (.int .u8 20), .lit (.int .u8 31), .lit (.int .u8 10), .lit (.int .u8 25), .lit (.int .u8 14), .lit (.int .u8 19), .lit (.int .u8 9), .lit (.int .u8 13), .lit (.int .u8 8), .lit (.int .u8 7), .lit (.int .u8 6)]

/-- 'kingpinlaw01.FrameBads': WHATEVER THE INPUT: true; the input reads as it did. -/
def frameBadsSpec : ChangeSpec := { name := "frameBads", fn := fun _ => fun
  | [d1, d2] => { results := [.lit (.bool true)], args := [d1, d2] }
  | _ => none }
def frameBadsRow : OpenClaim := { program := "ytmjbidnlknmcgaadoor", sum := "c4876227a369a95f4cd75d3570baf61b0fc975a3f1cbc208abf8623685d88196", func := "kingpin/kingpinlaw01.FrameBads", spec := "frameBads", unfollowed := true, recurses := true, named := ["math/bits.deBruijn64tab"], plainKeys := false, apart := false, laid := [("math/bits.deBruijn64tab", laid_math_bits_deBruijn64tab)] }
def FrameBadsSaid : Prop := frameBadsRow.holds Tryd.pinned (OpenSpec.ofChange frameBadsSpec)

/-- ITS FALSE NEIGHBOUR: 'it returns false'. Refute it at one input. -/
def frameBadsWrong : ChangeSpec := { name := "frameBads", fn := fun _ => fun
  | [d1, d2] => { results := [.lit (.bool false)], args := [d1, d2] }
  | _ => none }
def FrameBadsWrongFalsely : Prop := frameBadsRow.holds Tryd.pinned (OpenSpec.ofChange frameBadsWrong)

/-- 'kingpinlaw01.FrameReads': WHATEVER THE INPUT: true; the input reads as it did. -/
def frameReadsSpec : ChangeSpec := { name := "frameReads", fn := fun _ => fun
  | [d1, d2] => { results := [.lit (.bool true)], args := [d1, d2] }
  | _ => none }
def frameReadsRow : OpenClaim := { program := "ytmjbidnlknmcgaadoor", sum := "c4876227a369a95f4cd75d3570baf61b0fc975a3f1cbc208abf8623685d88196", func := "kingpin/kingpinlaw01.FrameReads", spec := "frameReads", unfollowed := true, recurses := true, named := ["math/bits.deBruijn64tab"], plainKeys := false, apart := false, laid := [("math/bits.deBruijn64tab", laid_math_bits_deBruijn64tab)] }
def FrameReadsSaid : Prop := frameReadsRow.holds Tryd.pinned (OpenSpec.ofChange frameReadsSpec)

/-- ITS FALSE NEIGHBOUR: 'it returns false'. Refute it at one input. -/
def frameReadsWrong : ChangeSpec := { name := "frameReads", fn := fun _ => fun
  | [d1, d2] => { results := [.lit (.bool false)], args := [d1, d2] }
  | _ => none }
def FrameReadsWrongFalsely : Prop := frameReadsRow.holds Tryd.pinned (OpenSpec.ofChange frameReadsWrong)

/-- 'kingpinlaw01.FrameSpans': WHATEVER THE INPUT: true; the input reads as it did. -/
def frameSpansSpec : ChangeSpec := { name := "frameSpans", fn := fun _ => fun
  | [d1, d2] => { results := [.lit (.bool true)], args := [d1, d2] }
  | _ => none }
def frameSpansRow : OpenClaim := { program := "ytmjbidnlknmcgaadoor", sum := "c4876227a369a95f4cd75d3570baf61b0fc975a3f1cbc208abf8623685d88196", func := "kingpin/kingpinlaw01.FrameSpans", spec := "frameSpans", unfollowed := true, recurses := true, named := ["math/bits.deBruijn64tab"], plainKeys := false, apart := false, laid := [("math/bits.deBruijn64tab", laid_math_bits_deBruijn64tab)] }
def FrameSpansSaid : Prop := frameSpansRow.holds Tryd.pinned (OpenSpec.ofChange frameSpansSpec)

/-- ITS FALSE NEIGHBOUR: 'it returns false'. Refute it at one input. -/
def frameSpansWrong : ChangeSpec := { name := "frameSpans", fn := fun _ => fun
  | [d1, d2] => { results := [.lit (.bool false)], args := [d1, d2] }
  | _ => none }
def FrameSpansWrongFalsely : Prop := frameSpansRow.holds Tryd.pinned (OpenSpec.ofChange frameSpansWrong)

/-- 'kingpinlaw01.FrameShows': WHATEVER THE INPUT: true; the input reads as it did. -/
def frameShowsSpec : ChangeSpec := { name := "frameShows", fn := fun _ => fun
  | [d1, d2, d3] => { results := [.lit (.bool true)], args := [d1, d2, d3] }
  | _ => none }
def frameShowsRow : OpenClaim := { program := "ytmjbidnlknmcgaadoor", sum := "c4876227a369a95f4cd75d3570baf61b0fc975a3f1cbc208abf8623685d88196", func := "kingpin/kingpinlaw01.FrameShows", spec := "frameShows", unfollowed := true, recurses := true, named := ["math/bits.deBruijn64tab"], plainKeys := false, apart := false, laid := [("math/bits.deBruijn64tab", laid_math_bits_deBruijn64tab)] }
def FrameShowsSaid : Prop := frameShowsRow.holds Tryd.pinned (OpenSpec.ofChange frameShowsSpec)

/-- ITS FALSE NEIGHBOUR: 'it returns false'. Refute it at one input. -/
def frameShowsWrong : ChangeSpec := { name := "frameShows", fn := fun _ => fun
  | [d1, d2, d3] => { results := [.lit (.bool false)], args := [d1, d2, d3] }
  | _ => none }
def FrameShowsWrongFalsely : Prop := frameShowsRow.holds Tryd.pinned (OpenSpec.ofChange frameShowsWrong)

/-- 'kingpinlaw01.FrameAheads': WHATEVER THE INPUT: true; the input reads as it did. -/
def frameAheadsSpec : ChangeSpec := { name := "frameAheads", fn := fun _ => fun
  | [d1, d2] => { results := [.lit (.bool true)], args := [d1, d2] }
  | _ => none }
def frameAheadsRow : OpenClaim := { program := "ytmjbidnlknmcgaadoor", sum := "c4876227a369a95f4cd75d3570baf61b0fc975a3f1cbc208abf8623685d88196", func := "kingpin/kingpinlaw01.FrameAheads", spec := "frameAheads", unfollowed := true, recurses := true, named := ["math/bits.deBruijn64tab"], plainKeys := false, apart := false, laid := [("math/bits.deBruijn64tab", laid_math_bits_deBruijn64tab)] }
def FrameAheadsSaid : Prop := frameAheadsRow.holds Tryd.pinned (OpenSpec.ofChange frameAheadsSpec)

/-- ITS FALSE NEIGHBOUR: 'it returns false'. Refute it at one input. -/
def frameAheadsWrong : ChangeSpec := { name := "frameAheads", fn := fun _ => fun
  | [d1, d2] => { results := [.lit (.bool false)], args := [d1, d2] }
  | _ => none }
def FrameAheadsWrongFalsely : Prop := frameAheadsRow.holds Tryd.pinned (OpenSpec.ofChange frameAheadsWrong)

/-- 'kingpinlaw01.FrameNames': WHATEVER THE INPUT: true; the input reads as it did. -/
def frameNamesSpec : ChangeSpec := { name := "frameNames", fn := fun _ => fun
  | [] => { results := [.lit (.bool true)], args := [] }
  | _ => none }
def frameNamesRow : OpenClaim := { program := "ytmjbidnlknmcgaadoor", sum := "c4876227a369a95f4cd75d3570baf61b0fc975a3f1cbc208abf8623685d88196", func := "kingpin/kingpinlaw01.FrameNames", spec := "frameNames", unfollowed := true, recurses := true, named := ["math/bits.deBruijn64tab"], plainKeys := false, apart := false, laid := [("math/bits.deBruijn64tab", laid_math_bits_deBruijn64tab)] }
def FrameNamesSaid : Prop := frameNamesRow.holds Tryd.pinned (OpenSpec.ofChange frameNamesSpec)

/-- ITS FALSE NEIGHBOUR: 'it returns false'. Refute it at one input. -/
def frameNamesWrong : ChangeSpec := { name := "frameNames", fn := fun _ => fun
  | [] => { results := [.lit (.bool false)], args := [] }
  | _ => none }
def FrameNamesWrongFalsely : Prop := frameNamesRow.holds Tryd.pinned (OpenSpec.ofChange frameNamesWrong)

/-- 'kingpinlaw01.FrameEndings': WHATEVER THE INPUT: true; the input reads as it did. -/
def frameEndingsSpec : ChangeSpec := { name := "frameEndings", fn := fun _ => fun
  | [d1, d2, d3] => { results := [.lit (.bool true)], args := [d1, d2, d3] }
  | _ => none }
def frameEndingsRow : OpenClaim := { program := "ytmjbidnlknmcgaadoor", sum := "c4876227a369a95f4cd75d3570baf61b0fc975a3f1cbc208abf8623685d88196", func := "kingpin/kingpinlaw01.FrameEndings", spec := "frameEndings", unfollowed := true, recurses := true, named := ["math/bits.deBruijn64tab"], plainKeys := false, apart := false, laid := [("math/bits.deBruijn64tab", laid_math_bits_deBruijn64tab)] }
def FrameEndingsSaid : Prop := frameEndingsRow.holds Tryd.pinned (OpenSpec.ofChange frameEndingsSpec)

/-- ITS FALSE NEIGHBOUR: 'it returns false'. Refute it at one input. -/
def frameEndingsWrong : ChangeSpec := { name := "frameEndings", fn := fun _ => fun
  | [d1, d2, d3] => { results := [.lit (.bool false)], args := [d1, d2, d3] }
  | _ => none }
def FrameEndingsWrongFalsely : Prop := frameEndingsRow.holds Tryd.pinned (OpenSpec.ofChange frameEndingsWrong)

/-- 'kingpinlaw01.FrameFirst': WHATEVER THE INPUT: true; the input reads as it did. -/
def frameFirstSpec : ChangeSpec := { name := "frameFirst", fn := fun _ => fun
  | [d1, d2] => { results := [.lit (.bool true)], args := [d1, d2] }
  | _ => none }
def frameFirstRow : OpenClaim := { program := "ytmjbidnlknmcgaadoor", sum := "c4876227a369a95f4cd75d3570baf61b0fc975a3f1cbc208abf8623685d88196", func := "kingpin/kingpinlaw01.FrameFirst", spec := "frameFirst", unfollowed := true, recurses := true, named := ["math/bits.deBruijn64tab"], plainKeys := false, apart := false, laid := [("math/bits.deBruijn64tab", laid_math_bits_deBruijn64tab)] }
def FrameFirstSaid : Prop := frameFirstRow.holds Tryd.pinned (OpenSpec.ofChange frameFirstSpec)

/-- ITS FALSE NEIGHBOUR: 'it returns false'. Refute it at one input. -/
def frameFirstWrong : ChangeSpec := { name := "frameFirst", fn := fun _ => fun
  | [d1, d2] => { results := [.lit (.bool false)], args := [d1, d2] }
  | _ => none }
def FrameFirstWrongFalsely : Prop := frameFirstRow.holds Tryd.pinned (OpenSpec.ofChange frameFirstWrong)

/-- 'kingpinlaw01.FrameSettled': WHATEVER THE INPUT: true; the input reads as it did. -/
def frameSettledSpec : ChangeSpec := { name := "frameSettled", fn := fun _ => fun
  | [d1, d2, d3] => { results := [.lit (.bool true)], args := [d1, d2, d3] }
  | _ => none }
def frameSettledRow : OpenClaim := { program := "ytmjbidnlknmcgaadoor", sum := "c4876227a369a95f4cd75d3570baf61b0fc975a3f1cbc208abf8623685d88196", func := "kingpin/kingpinlaw01.FrameSettled", spec := "frameSettled", unfollowed := true, recurses := true, named := ["math/bits.deBruijn64tab"], plainKeys := false, apart := false, laid := [("math/bits.deBruijn64tab", laid_math_bits_deBruijn64tab)] }
def FrameSettledSaid : Prop := frameSettledRow.holds Tryd.pinned (OpenSpec.ofChange frameSettledSpec)

/-- ITS FALSE NEIGHBOUR: 'it returns false'. Refute it at one input. -/
def frameSettledWrong : ChangeSpec := { name := "frameSettled", fn := fun _ => fun
  | [d1, d2, d3] => { results := [.lit (.bool false)], args := [d1, d2, d3] }
  | _ => none }
def FrameSettledWrongFalsely : Prop := frameSettledRow.holds Tryd.pinned (OpenSpec.ofChange frameSettledWrong)

/-- 'kingpinlaw01.FrameFouls': WHATEVER THE INPUT: true; the input reads as it did. -/
def frameFoulsSpec : ChangeSpec := { name := "frameFouls", fn := fun _ => fun
  | [d1, d2, d3] => { results := [.lit (.bool true)], args := [d1, d2, d3] }
  | _ => none }
def frameFoulsRow : OpenClaim := { program := "ytmjbidnlknmcgaadoor", sum := "c4876227a369a95f4cd75d3570baf61b0fc975a3f1cbc208abf8623685d88196", func := "kingpin/kingpinlaw01.FrameFouls", spec := "frameFouls", unfollowed := true, recurses := true, named := ["math/bits.deBruijn64tab"], plainKeys := false, apart := false, laid := [("math/bits.deBruijn64tab", laid_math_bits_deBruijn64tab)] }
def FrameFoulsSaid : Prop := frameFoulsRow.holds Tryd.pinned (OpenSpec.ofChange frameFoulsSpec)

/-- ITS FALSE NEIGHBOUR: 'it returns false'. Refute it at one input. -/
def frameFoulsWrong : ChangeSpec := { name := "frameFouls", fn := fun _ => fun
  | [d1, d2, d3] => { results := [.lit (.bool false)], args := [d1, d2, d3] }
  | _ => none }
def FrameFoulsWrongFalsely : Prop := frameFoulsRow.holds Tryd.pinned (OpenSpec.ofChange frameFoulsWrong)

/-- 'kingpinlaw01.FrameGreatest': WHATEVER THE INPUT: true; the input reads as it did. -/
def frameGreatestSpec : ChangeSpec := { name := "frameGreatest", fn := fun _ => fun
  | [d] => { results := [.lit (.bool true)], args := [d] }
  | _ => none }
def frameGreatestRow : OpenClaim := { program := "ytmjbidnlknmcgaadoor", sum := "c4876227a369a95f4cd75d3570baf61b0fc975a3f1cbc208abf8623685d88196", func := "kingpin/kingpinlaw01.FrameGreatest", spec := "frameGreatest", unfollowed := true, recurses := true, named := ["math/bits.deBruijn64tab"], plainKeys := false, apart := false, laid := [("math/bits.deBruijn64tab", laid_math_bits_deBruijn64tab)] }
def FrameGreatestSaid : Prop := frameGreatestRow.holds Tryd.pinned (OpenSpec.ofChange frameGreatestSpec)

/-- ITS FALSE NEIGHBOUR: 'it returns false'. Refute it at one input. -/
def frameGreatestWrong : ChangeSpec := { name := "frameGreatest", fn := fun _ => fun
  | [d] => { results := [.lit (.bool false)], args := [d] }
  | _ => none }
def FrameGreatestWrongFalsely : Prop := frameGreatestRow.holds Tryd.pinned (OpenSpec.ofChange frameGreatestWrong)

/-- 'kingpinlaw01.FrameSpares': WHATEVER THE INPUT: true; the input reads as it did. -/
def frameSparesSpec : ChangeSpec := { name := "frameSpares", fn := fun _ => fun
  | [d1, d2] => { results := [.lit (.bool true)], args := [d1, d2] }
  | _ => none }
def frameSparesRow : OpenClaim := { program := "ytmjbidnlknmcgaadoor", sum := "c4876227a369a95f4cd75d3570baf61b0fc975a3f1cbc208abf8623685d88196", func := "kingpin/kingpinlaw01.FrameSpares", spec := "frameSpares", unfollowed := true, recurses := true, named := ["math/bits.deBruijn64tab"], plainKeys := false, apart := false, laid := [("math/bits.deBruijn64tab", laid_math_bits_deBruijn64tab)] }
def FrameSparesSaid : Prop := frameSparesRow.holds Tryd.pinned (OpenSpec.ofChange frameSparesSpec)

/-- ITS FALSE NEIGHBOUR: 'it returns false'. Refute it at one input. -/
def frameSparesWrong : ChangeSpec := { name := "frameSpares", fn := fun _ => fun
  | [d1, d2] => { results := [.lit (.bool false)], args := [d1, d2] }
  | _ => none }
def FrameSparesWrongFalsely : Prop := frameSparesRow.holds Tryd.pinned (OpenSpec.ofChange frameSparesWrong)

/- THE SECOND FORM. 'bulk': how many values and letters a reading holds, each counted each time it is reached (what is shared counts as often as it is met; a slice's spare places count too). A statement '..UptoSaid' is the law's where the arguments, and the package variables that the reading takes, are together of bulk at most 1048576: NARROWER than '..Said'. Prove '..Said' where nothing that the law and all that it calls make is longer than what came in: it says more and counts as full. Else prove '..UptoSaid'. A law counts once. -/
mutual
def uptoBulk {H : Type} : DataW H → Nat
  | .lit (.string bytes) => bytes.length + 1
  | .lit _ => 1
  | .nil => 1
  | .ptr d => uptoBulk d + 1
  | .slice elems spare => uptoBulkAll elems + uptoBulkAll spare + 1
  | .agg parts => uptoBulkAll parts + 1
  | .iface _ d => uptoBulk d + 1
  | .map entries => uptoBulkEntries entries + 1
  | .held _ => 1
def uptoBulkAll {H : Type} : List (DataW H) → Nat
  | [] => 0
  | d :: r => uptoBulk d + uptoBulkAll r
def uptoBulkEntries {H : Type} : List (Lit × DataW H) → Nat
  | [] => 0
  | x :: r => uptoBulkEntry x + uptoBulkEntries r
def uptoBulkEntry {H : Type} : Lit × DataW H → Nat
  | (.string bytes, d) => bytes.length + uptoBulk d + 1
  | (_, d) => uptoBulk d + 1
 end
def uptoSmall : (H : Type) → List (DataW H) → Bool := fun _ ds => decide (uptoBulkAll ds ≤ 1048576)
def OpenSpec.upto (s : _root_.Go.ChangeSpec) : _root_.Go.OpenSpec := { _root_.Go.OpenSpec.ofChange s with cond := some uptoSmall }

/-- 'kingpinlaw01.FrameBads', WHERE WHAT IT READS IS OF BULK AT MOST 1048576: true; the input reads as it did. -/
def frameBadsUptoRow : OpenClaim := { program := "ytmjbidnlknmcgaadoor", sum := "c4876227a369a95f4cd75d3570baf61b0fc975a3f1cbc208abf8623685d88196", func := "kingpin/kingpinlaw01.FrameBads", spec := "frameBads", unfollowed := true, recurses := true, named := ["math/bits.deBruijn64tab"], plainKeys := false, apart := false, laid := [("math/bits.deBruijn64tab", laid_math_bits_deBruijn64tab)], narrowed := true }
def FrameBadsUptoSaid : Prop := frameBadsUptoRow.holds Tryd.pinned (OpenSpec.upto frameBadsSpec)

/-- 'kingpinlaw01.FrameReads', WHERE WHAT IT READS IS OF BULK AT MOST 1048576: true; the input reads as it did. -/
def frameReadsUptoRow : OpenClaim := { program := "ytmjbidnlknmcgaadoor", sum := "c4876227a369a95f4cd75d3570baf61b0fc975a3f1cbc208abf8623685d88196", func := "kingpin/kingpinlaw01.FrameReads", spec := "frameReads", unfollowed := true, recurses := true, named := ["math/bits.deBruijn64tab"], plainKeys := false, apart := false, laid := [("math/bits.deBruijn64tab", laid_math_bits_deBruijn64tab)], narrowed := true }
def FrameReadsUptoSaid : Prop := frameReadsUptoRow.holds Tryd.pinned (OpenSpec.upto frameReadsSpec)

/-- 'kingpinlaw01.FrameSpans', WHERE WHAT IT READS IS OF BULK AT MOST 1048576: true; the input reads as it did. -/
def frameSpansUptoRow : OpenClaim := { program := "ytmjbidnlknmcgaadoor", sum := "c4876227a369a95f4cd75d3570baf61b0fc975a3f1cbc208abf8623685d88196", func := "kingpin/kingpinlaw01.FrameSpans", spec := "frameSpans", unfollowed := true, recurses := true, named := ["math/bits.deBruijn64tab"], plainKeys := false, apart := false, laid := [("math/bits.deBruijn64tab", laid_math_bits_deBruijn64tab)], narrowed := true }
def FrameSpansUptoSaid : Prop := frameSpansUptoRow.holds Tryd.pinned (OpenSpec.upto frameSpansSpec)

/-- 'kingpinlaw01.FrameShows', WHERE WHAT IT READS IS OF BULK AT MOST 1048576: true; the input reads as it did. -/
def frameShowsUptoRow : OpenClaim := { program := "ytmjbidnlknmcgaadoor", sum := "c4876227a369a95f4cd75d3570baf61b0fc975a3f1cbc208abf8623685d88196", func := "kingpin/kingpinlaw01.FrameShows", spec := "frameShows", unfollowed := true, recurses := true, named := ["math/bits.deBruijn64tab"], plainKeys := false, apart := false, laid := [("math/bits.deBruijn64tab", laid_math_bits_deBruijn64tab)], narrowed := true }
def FrameShowsUptoSaid : Prop := frameShowsUptoRow.holds Tryd.pinned (OpenSpec.upto frameShowsSpec)

/-- 'kingpinlaw01.FrameAheads', WHERE WHAT IT READS IS OF BULK AT MOST 1048576: true; the input reads as it did. -/
def frameAheadsUptoRow : OpenClaim := { program := "ytmjbidnlknmcgaadoor", sum := "c4876227a369a95f4cd75d3570baf61b0fc975a3f1cbc208abf8623685d88196", func := "kingpin/kingpinlaw01.FrameAheads", spec := "frameAheads", unfollowed := true, recurses := true, named := ["math/bits.deBruijn64tab"], plainKeys := false, apart := false, laid := [("math/bits.deBruijn64tab", laid_math_bits_deBruijn64tab)], narrowed := true }
def FrameAheadsUptoSaid : Prop := frameAheadsUptoRow.holds Tryd.pinned (OpenSpec.upto frameAheadsSpec)

/-- 'kingpinlaw01.FrameNames', WHERE WHAT IT READS IS OF BULK AT MOST 1048576: true; the input reads as it did. -/
def frameNamesUptoRow : OpenClaim := { program := "ytmjbidnlknmcgaadoor", sum := "c4876227a369a95f4cd75d3570baf61b0fc975a3f1cbc208abf8623685d88196", func := "kingpin/kingpinlaw01.FrameNames", spec := "frameNames", unfollowed := true, recurses := true, named := ["math/bits.deBruijn64tab"], plainKeys := false, apart := false, laid := [("math/bits.deBruijn64tab", laid_math_bits_deBruijn64tab)], narrowed := true }
def FrameNamesUptoSaid : Prop := frameNamesUptoRow.holds Tryd.pinned (OpenSpec.upto frameNamesSpec)

/-- 'kingpinlaw01.FrameEndings', WHERE WHAT IT READS IS OF BULK AT MOST 1048576: true; the input reads as it did. -/
def frameEndingsUptoRow : OpenClaim := { program := "ytmjbidnlknmcgaadoor", sum := "c4876227a369a95f4cd75d3570baf61b0fc975a3f1cbc208abf8623685d88196", func := "kingpin/kingpinlaw01.FrameEndings", spec := "frameEndings", unfollowed := true, recurses := true, named := ["math/bits.deBruijn64tab"], plainKeys := false, apart := false, laid := [("math/bits.deBruijn64tab", laid_math_bits_deBruijn64tab)], narrowed := true }
def FrameEndingsUptoSaid : Prop := frameEndingsUptoRow.holds Tryd.pinned (OpenSpec.upto frameEndingsSpec)

/-- 'kingpinlaw01.FrameFirst', WHERE WHAT IT READS IS OF BULK AT MOST 1048576: true; the input reads as it did. -/
def frameFirstUptoRow : OpenClaim := { program := "ytmjbidnlknmcgaadoor", sum := "c4876227a369a95f4cd75d3570baf61b0fc975a3f1cbc208abf8623685d88196", func := "kingpin/kingpinlaw01.FrameFirst", spec := "frameFirst", unfollowed := true, recurses := true, named := ["math/bits.deBruijn64tab"], plainKeys := false, apart := false, laid := [("math/bits.deBruijn64tab", laid_math_bits_deBruijn64tab)], narrowed := true }
def FrameFirstUptoSaid : Prop := frameFirstUptoRow.holds Tryd.pinned (OpenSpec.upto frameFirstSpec)

/-- 'kingpinlaw01.FrameSettled', WHERE WHAT IT READS IS OF BULK AT MOST 1048576: true; the input reads as it did. -/
def frameSettledUptoRow : OpenClaim := { program := "ytmjbidnlknmcgaadoor", sum := "c4876227a369a95f4cd75d3570baf61b0fc975a3f1cbc208abf8623685d88196", func := "kingpin/kingpinlaw01.FrameSettled", spec := "frameSettled", unfollowed := true, recurses := true, named := ["math/bits.deBruijn64tab"], plainKeys := false, apart := false, laid := [("math/bits.deBruijn64tab", laid_math_bits_deBruijn64tab)], narrowed := true }
def FrameSettledUptoSaid : Prop := frameSettledUptoRow.holds Tryd.pinned (OpenSpec.upto frameSettledSpec)

/-- 'kingpinlaw01.FrameFouls', WHERE WHAT IT READS IS OF BULK AT MOST 1048576: true; the input reads as it did. -/
def frameFoulsUptoRow : OpenClaim := { program := "ytmjbidnlknmcgaadoor", sum := "c4876227a369a95f4cd75d3570baf61b0fc975a3f1cbc208abf8623685d88196", func := "kingpin/kingpinlaw01.FrameFouls", spec := "frameFouls", unfollowed := true, recurses := true, named := ["math/bits.deBruijn64tab"], plainKeys := false, apart := false, laid := [("math/bits.deBruijn64tab", laid_math_bits_deBruijn64tab)], narrowed := true }
def FrameFoulsUptoSaid : Prop := frameFoulsUptoRow.holds Tryd.pinned (OpenSpec.upto frameFoulsSpec)

/-- 'kingpinlaw01.FrameGreatest', WHERE WHAT IT READS IS OF BULK AT MOST 1048576: true; the input reads as it did. -/
def frameGreatestUptoRow : OpenClaim := { program := "ytmjbidnlknmcgaadoor", sum := "c4876227a369a95f4cd75d3570baf61b0fc975a3f1cbc208abf8623685d88196", func := "kingpin/kingpinlaw01.FrameGreatest", spec := "frameGreatest", unfollowed := true, recurses := true, named := ["math/bits.deBruijn64tab"], plainKeys := false, apart := false, laid := [("math/bits.deBruijn64tab", laid_math_bits_deBruijn64tab)], narrowed := true }
def FrameGreatestUptoSaid : Prop := frameGreatestUptoRow.holds Tryd.pinned (OpenSpec.upto frameGreatestSpec)

/-- 'kingpinlaw01.FrameSpares', WHERE WHAT IT READS IS OF BULK AT MOST 1048576: true; the input reads as it did. -/
def frameSparesUptoRow : OpenClaim := { program := "ytmjbidnlknmcgaadoor", sum := "c4876227a369a95f4cd75d3570baf61b0fc975a3f1cbc208abf8623685d88196", func := "kingpin/kingpinlaw01.FrameSpares", spec := "frameSpares", unfollowed := true, recurses := true, named := ["math/bits.deBruijn64tab"], plainKeys := false, apart := false, laid := [("math/bits.deBruijn64tab", laid_math_bits_deBruijn64tab)], narrowed := true }
def FrameSparesUptoSaid : Prop := frameSparesUptoRow.holds Tryd.pinned (OpenSpec.upto frameSparesSpec)

end Rows
end Go.Proofs.YtmjbidnlknmcgaaDoor
