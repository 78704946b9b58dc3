/-
  No cell of these rows narrows 'for every input' (looked for: loops, veiled, ifaces, maps, wideKeys, modest, calm, conditions, laid).
  DERIVED. THE GIVEN ROWS OF THIS SEAT. 14 by the template 'for every input the law returns true; each argument reads behind the call as it read before'; 0 by the template 'total and deterministic' (their statements: YtbbndcfnpfedpaaTotals.lean).
  GIVEN WITH THE SEED: the statements are not yours to turn. If you find one false, say at which input.
  Laid BY PROGRAM, IN A SANDBOX (cutbox-rows.mjs): the forced cells as the released guide's own fill.sh prints them over the translation 6c4f27fb1354a61c… (all of the seat's roots in one cut). By AI agents, Wed Nov 11 2026. No macro, syntax, notation, axiom, sorry.
-/
import Derived.Test.YtbbndcfnpfedpaaChecked
import GoSem.Claim
import GoSem.ClaimJoined
import GoSem.ClaimMapViews
import Derived.JoinedTies
import Derived.KernelRfl
namespace Go.Proofs.Ytbbndcfnpfedpaa
/- THE CELL 'sum', in the pinned program and in every row, IS THE sha256 OF THE DUMP (.gsa) THAT YtbbndcfnpfedpaaProg.lean LOADS. Nothing in Lean hashes anything: it is a label: what it is worth is what the hold of that sum in a sandbox is worth. -/
noncomputable def Try.pinned : Pinned := { name := "ytbbndcfnpfedpaa", sum := "6c4f27fb1354a61cbc44cc3a19d50889385f141fac7662aa25a0d0372fb81799", checked := Try.checked }
namespace Rows
def none {H : Type} : Left H := { results := [], args := [] }

/-- 'kingpinlaw03.SeenExplains': WHATEVER THE INPUT: true; the input reads as it did. -/
def seenExplainsSpec : ChangeSpec := { name := "seenExplains", fn := fun _ => fun
  | [d1, d2] => { results := [.lit (.bool true)], args := [d1, d2] }
  | _ => none }
def seenExplainsRow : OpenClaim := { program := "ytbbndcfnpfedpaa", sum := "6c4f27fb1354a61cbc44cc3a19d50889385f141fac7662aa25a0d0372fb81799", func := "kingpin/kingpinlaw03.SeenExplains", spec := "seenExplains", unfollowed := true, recurses := true, plainKeys := false, apart := false }
def SeenExplainsSaid : Prop := seenExplainsRow.holds Try.pinned (OpenSpec.ofChange seenExplainsSpec)

/-- ITS FALSE NEIGHBOUR: 'it returns false'. Refute it at one input. -/
def seenExplainsWrong : ChangeSpec := { name := "seenExplains", fn := fun _ => fun
  | [d1, d2] => { results := [.lit (.bool false)], args := [d1, d2] }
  | _ => none }
def SeenExplainsWrongFalsely : Prop := seenExplainsRow.holds Try.pinned (OpenSpec.ofChange seenExplainsWrong)

/-- 'kingpinlaw03.SeenRanges': WHATEVER THE INPUT: true; the input reads as it did. -/
def seenRangesSpec : ChangeSpec := { name := "seenRanges", fn := fun _ => fun
  | [d1, d2] => { results := [.lit (.bool true)], args := [d1, d2] }
  | _ => none }
def seenRangesRow : OpenClaim := { program := "ytbbndcfnpfedpaa", sum := "6c4f27fb1354a61cbc44cc3a19d50889385f141fac7662aa25a0d0372fb81799", func := "kingpin/kingpinlaw03.SeenRanges", spec := "seenRanges", unfollowed := true, recurses := true, plainKeys := false, apart := false }
def SeenRangesSaid : Prop := seenRangesRow.holds Try.pinned (OpenSpec.ofChange seenRangesSpec)

/-- ITS FALSE NEIGHBOUR: 'it returns false'. Refute it at one input. -/
def seenRangesWrong : ChangeSpec := { name := "seenRanges", fn := fun _ => fun
  | [d1, d2] => { results := [.lit (.bool false)], args := [d1, d2] }
  | _ => none }
def SeenRangesWrongFalsely : Prop := seenRangesRow.holds Try.pinned (OpenSpec.ofChange seenRangesWrong)

/-- 'kingpinlaw03.SeenSures': WHATEVER THE INPUT: true; the input reads as it did. -/
def seenSuresSpec : ChangeSpec := { name := "seenSures", fn := fun _ => fun
  | [d1, d2] => { results := [.lit (.bool true)], args := [d1, d2] }
  | _ => none }
def seenSuresRow : OpenClaim := { program := "ytbbndcfnpfedpaa", sum := "6c4f27fb1354a61cbc44cc3a19d50889385f141fac7662aa25a0d0372fb81799", func := "kingpin/kingpinlaw03.SeenSures", spec := "seenSures", unfollowed := true, recurses := true, plainKeys := false, apart := false }
def SeenSuresSaid : Prop := seenSuresRow.holds Try.pinned (OpenSpec.ofChange seenSuresSpec)

/-- ITS FALSE NEIGHBOUR: 'it returns false'. Refute it at one input. -/
def seenSuresWrong : ChangeSpec := { name := "seenSures", fn := fun _ => fun
  | [d1, d2] => { results := [.lit (.bool false)], args := [d1, d2] }
  | _ => none }
def SeenSuresWrongFalsely : Prop := seenSuresRow.holds Try.pinned (OpenSpec.ofChange seenSuresWrong)

/-- 'kingpinlaw03.SeenBlames': WHATEVER THE INPUT: true; the input reads as it did. -/
def seenBlamesSpec : ChangeSpec := { name := "seenBlames", fn := fun _ => fun
  | [d] => { results := [.lit (.bool true)], args := [d] }
  | _ => none }
def seenBlamesRow : OpenClaim := { program := "ytbbndcfnpfedpaa", sum := "6c4f27fb1354a61cbc44cc3a19d50889385f141fac7662aa25a0d0372fb81799", func := "kingpin/kingpinlaw03.SeenBlames", spec := "seenBlames", unfollowed := true, recurses := true, plainKeys := false, apart := false }
def SeenBlamesSaid : Prop := seenBlamesRow.holds Try.pinned (OpenSpec.ofChange seenBlamesSpec)

/-- ITS FALSE NEIGHBOUR: 'it returns false'. Refute it at one input. -/
def seenBlamesWrong : ChangeSpec := { name := "seenBlames", fn := fun _ => fun
  | [d] => { results := [.lit (.bool false)], args := [d] }
  | _ => none }
def SeenBlamesWrongFalsely : Prop := seenBlamesRow.holds Try.pinned (OpenSpec.ofChange seenBlamesWrong)

/-- 'kingpinlaw03.SeenProves': WHATEVER THE INPUT: true; the input reads as it did. -/
def seenProvesSpec : ChangeSpec := { name := "seenProves", fn := fun _ => fun
  | [d1, d2, d3] => { results := [.lit (.bool true)], args := [d1, d2, d3] }
  | _ => none }
def seenProvesRow : OpenClaim := { program := "ytbbndcfnpfedpaa", sum := "6c4f27fb1354a61cbc44cc3a19d50889385f141fac7662aa25a0d0372fb81799", func := "kingpin/kingpinlaw03.SeenProves", spec := "seenProves", unfollowed := true, recurses := true, plainKeys := false, apart := false }
def SeenProvesSaid : Prop := seenProvesRow.holds Try.pinned (OpenSpec.ofChange seenProvesSpec)

/-- ITS FALSE NEIGHBOUR: 'it returns false'. Refute it at one input. -/
def seenProvesWrong : ChangeSpec := { name := "seenProves", fn := fun _ => fun
  | [d1, d2, d3] => { results := [.lit (.bool false)], args := [d1, d2, d3] }
  | _ => none }
def SeenProvesWrongFalsely : Prop := seenProvesRow.holds Try.pinned (OpenSpec.ofChange seenProvesWrong)

/-- 'kingpinlaw03.SeenNames': WHATEVER THE INPUT: true; the input reads as it did. -/
def seenNamesSpec : ChangeSpec := { name := "seenNames", fn := fun _ => fun
  | [] => { results := [.lit (.bool true)], args := [] }
  | _ => none }
def seenNamesRow : OpenClaim := { program := "ytbbndcfnpfedpaa", sum := "6c4f27fb1354a61cbc44cc3a19d50889385f141fac7662aa25a0d0372fb81799", func := "kingpin/kingpinlaw03.SeenNames", spec := "seenNames", unfollowed := true, recurses := true, plainKeys := false, apart := false }
def SeenNamesSaid : Prop := seenNamesRow.holds Try.pinned (OpenSpec.ofChange seenNamesSpec)

/-- ITS FALSE NEIGHBOUR: 'it returns false'. Refute it at one input. -/
def seenNamesWrong : ChangeSpec := { name := "seenNames", fn := fun _ => fun
  | [] => { results := [.lit (.bool false)], args := [] }
  | _ => none }
def SeenNamesWrongFalsely : Prop := seenNamesRow.holds Try.pinned (OpenSpec.ofChange seenNamesWrong)

/-- 'kingpinlaw03.SeenTruth': WHATEVER THE INPUT: true; the input reads as it did. -/
def seenTruthSpec : ChangeSpec := { name := "seenTruth", fn := fun _ => fun
  | [d1, d2, d3] => { results := [.lit (.bool true)], args := [d1, d2, d3] }
  | _ => none }
def seenTruthRow : OpenClaim := { program := "ytbbndcfnpfedpaa", sum := "6c4f27fb1354a61cbc44cc3a19d50889385f141fac7662aa25a0d0372fb81799", func := "kingpin/kingpinlaw03.SeenTruth", spec := "seenTruth", unfollowed := true, recurses := true, plainKeys := false, apart := false }
def SeenTruthSaid : Prop := seenTruthRow.holds Try.pinned (OpenSpec.ofChange seenTruthSpec)

/-- ITS FALSE NEIGHBOUR: 'it returns false'. Refute it at one input. -/
def seenTruthWrong : ChangeSpec := { name := "seenTruth", fn := fun _ => fun
  | [d1, d2, d3] => { results := [.lit (.bool false)], args := [d1, d2, d3] }
  | _ => none }
def SeenTruthWrongFalsely : Prop := seenTruthRow.holds Try.pinned (OpenSpec.ofChange seenTruthWrong)

/-- 'kingpinlaw03.SeenAll': WHATEVER THE INPUT: true; the input reads as it did. -/
def seenAllSpec : ChangeSpec := { name := "seenAll", fn := fun _ => fun
  | [d1, d2] => { results := [.lit (.bool true)], args := [d1, d2] }
  | _ => none }
def seenAllRow : OpenClaim := { program := "ytbbndcfnpfedpaa", sum := "6c4f27fb1354a61cbc44cc3a19d50889385f141fac7662aa25a0d0372fb81799", func := "kingpin/kingpinlaw03.SeenAll", spec := "seenAll", unfollowed := true, recurses := true, plainKeys := false, apart := false }
def SeenAllSaid : Prop := seenAllRow.holds Try.pinned (OpenSpec.ofChange seenAllSpec)

/-- ITS FALSE NEIGHBOUR: 'it returns false'. Refute it at one input. -/
def seenAllWrong : ChangeSpec := { name := "seenAll", fn := fun _ => fun
  | [d1, d2] => { results := [.lit (.bool false)], args := [d1, d2] }
  | _ => none }
def SeenAllWrongFalsely : Prop := seenAllRow.holds Try.pinned (OpenSpec.ofChange seenAllWrong)

/-- 'kingpinlaw03.SeenMore': WHATEVER THE INPUT: true; the input reads as it did. -/
def seenMoreSpec : ChangeSpec := { name := "seenMore", fn := fun _ => fun
  | [d1, d2, d3, d4] => { results := [.lit (.bool true)], args := [d1, d2, d3, d4] }
  | _ => none }
def seenMoreRow : OpenClaim := { program := "ytbbndcfnpfedpaa", sum := "6c4f27fb1354a61cbc44cc3a19d50889385f141fac7662aa25a0d0372fb81799", func := "kingpin/kingpinlaw03.SeenMore", spec := "seenMore", unfollowed := true, recurses := true, plainKeys := false, apart := false }
def SeenMoreSaid : Prop := seenMoreRow.holds Try.pinned (OpenSpec.ofChange seenMoreSpec)

/-- ITS FALSE NEIGHBOUR: 'it returns false'. Refute it at one input. -/
def seenMoreWrong : ChangeSpec := { name := "seenMore", fn := fun _ => fun
  | [d1, d2, d3, d4] => { results := [.lit (.bool false)], args := [d1, d2, d3, d4] }
  | _ => none }
def SeenMoreWrongFalsely : Prop := seenMoreRow.holds Try.pinned (OpenSpec.ofChange seenMoreWrong)

/-- 'kingpinlaw03.SeenFewer': WHATEVER THE INPUT: true; the input reads as it did. -/
def seenFewerSpec : ChangeSpec := { name := "seenFewer", fn := fun _ => fun
  | [d1, d2, d3] => { results := [.lit (.bool true)], args := [d1, d2, d3] }
  | _ => none }
def seenFewerRow : OpenClaim := { program := "ytbbndcfnpfedpaa", sum := "6c4f27fb1354a61cbc44cc3a19d50889385f141fac7662aa25a0d0372fb81799", func := "kingpin/kingpinlaw03.SeenFewer", spec := "seenFewer", unfollowed := true, recurses := true, plainKeys := false, apart := false }
def SeenFewerSaid : Prop := seenFewerRow.holds Try.pinned (OpenSpec.ofChange seenFewerSpec)

/-- ITS FALSE NEIGHBOUR: 'it returns false'. Refute it at one input. -/
def seenFewerWrong : ChangeSpec := { name := "seenFewer", fn := fun _ => fun
  | [d1, d2, d3] => { results := [.lit (.bool false)], args := [d1, d2, d3] }
  | _ => none }
def SeenFewerWrongFalsely : Prop := seenFewerRow.holds Try.pinned (OpenSpec.ofChange seenFewerWrong)

/-- 'kingpinlaw03.SeenOrder': WHATEVER THE INPUT: true; the input reads as it did. -/
def seenOrderSpec : ChangeSpec := { name := "seenOrder", fn := fun _ => fun
  | [d1, d2, d3] => { results := [.lit (.bool true)], args := [d1, d2, d3] }
  | _ => none }
def seenOrderRow : OpenClaim := { program := "ytbbndcfnpfedpaa", sum := "6c4f27fb1354a61cbc44cc3a19d50889385f141fac7662aa25a0d0372fb81799", func := "kingpin/kingpinlaw03.SeenOrder", spec := "seenOrder", unfollowed := true, recurses := true, plainKeys := false, apart := false }
def SeenOrderSaid : Prop := seenOrderRow.holds Try.pinned (OpenSpec.ofChange seenOrderSpec)

/-- ITS FALSE NEIGHBOUR: 'it returns false'. Refute it at one input. -/
def seenOrderWrong : ChangeSpec := { name := "seenOrder", fn := fun _ => fun
  | [d1, d2, d3] => { results := [.lit (.bool false)], args := [d1, d2, d3] }
  | _ => none }
def SeenOrderWrongFalsely : Prop := seenOrderRow.holds Try.pinned (OpenSpec.ofChange seenOrderWrong)

/-- 'kingpinlaw03.SeenBlame': WHATEVER THE INPUT: true; the input reads as it did. -/
def seenBlameSpec : ChangeSpec := { name := "seenBlame", fn := fun _ => fun
  | [d1, d2, d3] => { results := [.lit (.bool true)], args := [d1, d2, d3] }
  | _ => none }
def seenBlameRow : OpenClaim := { program := "ytbbndcfnpfedpaa", sum := "6c4f27fb1354a61cbc44cc3a19d50889385f141fac7662aa25a0d0372fb81799", func := "kingpin/kingpinlaw03.SeenBlame", spec := "seenBlame", unfollowed := true, recurses := true, plainKeys := false, apart := false }
def SeenBlameSaid : Prop := seenBlameRow.holds Try.pinned (OpenSpec.ofChange seenBlameSpec)

/-- ITS FALSE NEIGHBOUR: 'it returns false'. Refute it at one input. -/
def seenBlameWrong : ChangeSpec := { name := "seenBlame", fn := fun _ => fun
  | [d1, d2, d3] => { results := [.lit (.bool false)], args := [d1, d2, d3] }
  | _ => none }
def SeenBlameWrongFalsely : Prop := seenBlameRow.holds Try.pinned (OpenSpec.ofChange seenBlameWrong)

/-- 'kingpinlaw03.SeenBehind': WHATEVER THE INPUT: true; the input reads as it did. -/
def seenBehindSpec : ChangeSpec := { name := "seenBehind", fn := fun _ => fun
  | [d1, d2] => { results := [.lit (.bool true)], args := [d1, d2] }
  | _ => none }
def seenBehindRow : OpenClaim := { program := "ytbbndcfnpfedpaa", sum := "6c4f27fb1354a61cbc44cc3a19d50889385f141fac7662aa25a0d0372fb81799", func := "kingpin/kingpinlaw03.SeenBehind", spec := "seenBehind", unfollowed := true, recurses := true, plainKeys := false, apart := false }
def SeenBehindSaid : Prop := seenBehindRow.holds Try.pinned (OpenSpec.ofChange seenBehindSpec)

/-- ITS FALSE NEIGHBOUR: 'it returns false'. Refute it at one input. -/
def seenBehindWrong : ChangeSpec := { name := "seenBehind", fn := fun _ => fun
  | [d1, d2] => { results := [.lit (.bool false)], args := [d1, d2] }
  | _ => none }
def SeenBehindWrongFalsely : Prop := seenBehindRow.holds Try.pinned (OpenSpec.ofChange seenBehindWrong)

/-- 'kingpinlaw03.SeenEach': WHATEVER THE INPUT: true; the input reads as it did. -/
def seenEachSpec : ChangeSpec := { name := "seenEach", fn := fun _ => fun
  | [d1, d2, d3] => { results := [.lit (.bool true)], args := [d1, d2, d3] }
  | _ => none }
def seenEachRow : OpenClaim := { program := "ytbbndcfnpfedpaa", sum := "6c4f27fb1354a61cbc44cc3a19d50889385f141fac7662aa25a0d0372fb81799", func := "kingpin/kingpinlaw03.SeenEach", spec := "seenEach", unfollowed := true, recurses := true, plainKeys := false, apart := false }
def SeenEachSaid : Prop := seenEachRow.holds Try.pinned (OpenSpec.ofChange seenEachSpec)

/-- ITS FALSE NEIGHBOUR: 'it returns false'. Refute it at one input. -/
def seenEachWrong : ChangeSpec := { name := "seenEach", fn := fun _ => fun
  | [d1, d2, d3] => { results := [.lit (.bool false)], args := [d1, d2, d3] }
  | _ => none }
def SeenEachWrongFalsely : Prop := seenEachRow.holds Try.pinned (OpenSpec.ofChange seenEachWrong)

/- THE SECOND FORM. 'bulk': how many values and letters a reading holds, each counted each time it is reached (what is shared counts as often as it is met; a slice's spare places count too). A statement '..UptoSaid' is the law's where the arguments, and the package variables that the reading takes, are together of bulk at most 1048576: NARROWER than '..Said'. Prove '..Said' where nothing that the law and all that it calls make is longer than what came in: it says more and counts as full. Else prove '..UptoSaid'. A law counts once. -/
mutual
def uptoBulk {H : Type} : DataW H → Nat
  | .lit (.string bytes) => bytes.length + 1
  | .lit _ => 1
  | .nil => 1
  | .ptr d => uptoBulk d + 1
  | .slice elems spare => uptoBulkAll elems + uptoBulkAll spare + 1
  | .agg parts => uptoBulkAll parts + 1
  | .iface _ d => uptoBulk d + 1
  | .map entries => uptoBulkEntries entries + 1
  | .held _ => 1
def uptoBulkAll {H : Type} : List (DataW H) → Nat
  | [] => 0
  | d :: r => uptoBulk d + uptoBulkAll r
def uptoBulkEntries {H : Type} : List (Lit × DataW H) → Nat
  | [] => 0
  | x :: r => uptoBulkEntry x + uptoBulkEntries r
def uptoBulkEntry {H : Type} : Lit × DataW H → Nat
  | (.string bytes, d) => bytes.length + uptoBulk d + 1
  | (_, d) => uptoBulk d + 1
 end
def uptoSmall : (H : Type) → List (DataW H) → Bool := fun _ ds => decide (uptoBulkAll ds ≤ 1048576)
def OpenSpec.upto (s : _root_.Go.ChangeSpec) : _root_.Go.OpenSpec := { _root_.Go.OpenSpec.ofChange s with cond := some uptoSmall }

/-- 'kingpinlaw03.SeenExplains', WHERE WHAT IT READS IS OF BULK AT MOST 1048576: true; the input reads as it did. -/
def seenExplainsUptoRow : OpenClaim := { program := "ytbbndcfnpfedpaa", sum := "6c4f27fb1354a61cbc44cc3a19d50889385f141fac7662aa25a0d0372fb81799", func := "kingpin/kingpinlaw03.SeenExplains", spec := "seenExplains", unfollowed := true, recurses := true, plainKeys := false, apart := false, narrowed := true }
def SeenExplainsUptoSaid : Prop := seenExplainsUptoRow.holds Try.pinned (OpenSpec.upto seenExplainsSpec)

/-- 'kingpinlaw03.SeenRanges', WHERE WHAT IT READS IS OF BULK AT MOST 1048576: true; the input reads as it did. -/
def seenRangesUptoRow : OpenClaim := { program := "ytbbndcfnpfedpaa", sum := "6c4f27fb1354a61cbc44cc3a19d50889385f141fac7662aa25a0d0372fb81799", func := "kingpin/kingpinlaw03.SeenRanges", spec := "seenRanges", unfollowed := true, recurses := true, plainKeys := false, apart := false, narrowed := true }
def SeenRangesUptoSaid : Prop := seenRangesUptoRow.holds Try.pinned (OpenSpec.upto seenRangesSpec)

/-- 'kingpinlaw03.SeenSures', WHERE WHAT IT READS IS OF BULK AT MOST 1048576: true; the input reads as it did. -/
def seenSuresUptoRow : OpenClaim := { program := "ytbbndcfnpfedpaa", sum := "6c4f27fb1354a61cbc44cc3a19d50889385f141fac7662aa25a0d0372fb81799", func := "kingpin/kingpinlaw03.SeenSures", spec := "seenSures", unfollowed := true, recurses := true, plainKeys := false, apart := false, narrowed := true }
def SeenSuresUptoSaid : Prop := seenSuresUptoRow.holds Try.pinned (OpenSpec.upto seenSuresSpec)

/-- 'kingpinlaw03.SeenBlames', WHERE WHAT IT READS IS OF BULK AT MOST 1048576: true; the input reads as it did. -/
def seenBlamesUptoRow : OpenClaim := { program := "ytbbndcfnpfedpaa", sum := "6c4f27fb1354a61cbc44cc3a19d50889385f141fac7662aa25a0d0372fb81799", func := "kingpin/kingpinlaw03.SeenBlames", spec := "seenBlames", unfollowed := true, recurses := true, plainKeys := false, apart := false, narrowed := true }
def SeenBlamesUptoSaid : Prop := seenBlamesUptoRow.holds Try.pinned (OpenSpec.upto seenBlamesSpec)

/-- 'kingpinlaw03.SeenProves', WHERE WHAT IT READS IS OF BULK AT MOST 1048576: true; the input reads as it did. -/
def seenProvesUptoRow : OpenClaim := { program := "ytbbndcfnpfedpaa", sum := "6c4f27fb1354a61cbc44cc3a19d50889385f141fac7662aa25a0d0372fb81799", func := "kingpin/kingpinlaw03.SeenProves", spec := "seenProves", unfollowed := true, recurses := true, plainKeys := false, apart := false, narrowed := true }
def SeenProvesUptoSaid : Prop := seenProvesUptoRow.holds Try.pinned (OpenSpec.upto seenProvesSpec)

/-- 'kingpinlaw03.SeenNames', WHERE WHAT IT READS IS OF BULK AT MOST 1048576: true; the input reads as it did. -/
def seenNamesUptoRow : OpenClaim := { program := "ytbbndcfnpfedpaa", sum := "6c4f27fb1354a61cbc44cc3a19d50889385f141fac7662aa25a0d0372fb81799", func := "kingpin/kingpinlaw03.SeenNames", spec := "seenNames", unfollowed := true, recurses := true, plainKeys := false, apart := false, narrowed := true }
def SeenNamesUptoSaid : Prop := seenNamesUptoRow.holds Try.pinned (OpenSpec.upto seenNamesSpec)

/-- 'kingpinlaw03.SeenTruth', WHERE WHAT IT READS IS OF BULK AT MOST 1048576: true; the input reads as it did. -/
def seenTruthUptoRow : OpenClaim := { program := "ytbbndcfnpfedpaa", sum := "6c4f27fb1354a61cbc44cc3a19d50889385f141fac7662aa25a0d0372fb81799", func := "kingpin/kingpinlaw03.SeenTruth", spec := "seenTruth", unfollowed := true, recurses := true, plainKeys := false, apart := false, narrowed := true }
def SeenTruthUptoSaid : Prop := seenTruthUptoRow.holds Try.pinned (OpenSpec.upto seenTruthSpec)

/-- 'kingpinlaw03.SeenAll', WHERE WHAT IT READS IS OF BULK AT MOST 1048576: true; the input reads as it did. -/
def seenAllUptoRow : OpenClaim := { program := "ytbbndcfnpfedpaa", sum := "6c4f27fb1354a61cbc44cc3a19d50889385f141fac7662aa25a0d0372fb81799", func := "kingpin/kingpinlaw03.SeenAll", spec := "seenAll", unfollowed := true, recurses := true, plainKeys := false, apart := false, narrowed := true }
def SeenAllUptoSaid : Prop := seenAllUptoRow.holds Try.pinned (OpenSpec.upto seenAllSpec)

/-- 'kingpinlaw03.SeenMore', WHERE WHAT IT READS IS OF BULK AT MOST 1048576: true; the input reads as it did. -/
def seenMoreUptoRow : OpenClaim := { program := "ytbbndcfnpfedpaa", sum := "6c4f27fb1354a61cbc44cc3a19d50889385f141fac7662aa25a0d0372fb81799", func := "kingpin/kingpinlaw03.SeenMore", spec := "seenMore", unfollowed := true, recurses := true, plainKeys := false, apart := false, narrowed := true }
def SeenMoreUptoSaid : Prop := seenMoreUptoRow.holds Try.pinned (OpenSpec.upto seenMoreSpec)

/-- 'kingpinlaw03.SeenFewer', WHERE WHAT IT READS IS OF BULK AT MOST 1048576: true; the input reads as it did. -/
def seenFewerUptoRow : OpenClaim := { program := "ytbbndcfnpfedpaa", sum := "6c4f27fb1354a61cbc44cc3a19d50889385f141fac7662aa25a0d0372fb81799", func := "kingpin/kingpinlaw03.SeenFewer", spec := "seenFewer", unfollowed := true, recurses := true, plainKeys := false, apart := false, narrowed := true }
def SeenFewerUptoSaid : Prop := seenFewerUptoRow.holds Try.pinned (OpenSpec.upto seenFewerSpec)

/-- 'kingpinlaw03.SeenOrder', WHERE WHAT IT READS IS OF BULK AT MOST 1048576: true; the input reads as it did. -/
def seenOrderUptoRow : OpenClaim := { program := "ytbbndcfnpfedpaa", sum := "6c4f27fb1354a61cbc44cc3a19d50889385f141fac7662aa25a0d0372fb81799", func := "kingpin/kingpinlaw03.SeenOrder", spec := "seenOrder", unfollowed := true, recurses := true, plainKeys := false, apart := false, narrowed := true }
def SeenOrderUptoSaid : Prop := seenOrderUptoRow.holds Try.pinned (OpenSpec.upto seenOrderSpec)

/-- 'kingpinlaw03.SeenBlame', WHERE WHAT IT READS IS OF BULK AT MOST 1048576: true; the input reads as it did. -/
def seenBlameUptoRow : OpenClaim := { program := "ytbbndcfnpfedpaa", sum := "6c4f27fb1354a61cbc44cc3a19d50889385f141fac7662aa25a0d0372fb81799", func := "kingpin/kingpinlaw03.SeenBlame", spec := "seenBlame", unfollowed := true, recurses := true, plainKeys := false, apart := false, narrowed := true }
def SeenBlameUptoSaid : Prop := seenBlameUptoRow.holds Try.pinned (OpenSpec.upto seenBlameSpec)

/-- 'kingpinlaw03.SeenBehind', WHERE WHAT IT READS IS OF BULK AT MOST 1048576: true; the input reads as it did. -/
def seenBehindUptoRow : OpenClaim := { program := "ytbbndcfnpfedpaa", sum := "6c4f27fb1354a61cbc44cc3a19d50889385f141fac7662aa25a0d0372fb81799", func := "kingpin/kingpinlaw03.SeenBehind", spec := "seenBehind", unfollowed := true, recurses := true, plainKeys := false, apart := false, narrowed := true }
def SeenBehindUptoSaid : Prop := seenBehindUptoRow.holds Try.pinned (OpenSpec.upto seenBehindSpec)

/-- 'kingpinlaw03.SeenEach', WHERE WHAT IT READS IS OF BULK AT MOST 1048576: true; the input reads as it did. -/
def seenEachUptoRow : OpenClaim := { program := "ytbbndcfnpfedpaa", sum := "6c4f27fb1354a61cbc44cc3a19d50889385f141fac7662aa25a0d0372fb81799", func := "kingpin/kingpinlaw03.SeenEach", spec := "seenEach", unfollowed := true, recurses := true, plainKeys := false, apart := false, narrowed := true }
def SeenEachUptoSaid : Prop := seenEachUptoRow.holds Try.pinned (OpenSpec.upto seenEachSpec)

end Rows
end Go.Proofs.Ytbbndcfnpfedpaa
