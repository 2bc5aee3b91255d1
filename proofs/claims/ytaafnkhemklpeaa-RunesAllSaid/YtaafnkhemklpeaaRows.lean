/-
  No cell of these rows narrows 'for every input' (looked for: loops, veiled, ifaces, maps, wideKeys, modest, calm, conditions, laid).
  DERIVED. THE GIVEN ROWS OF THIS SEAT. 6 by the template 'for every input the law returns true; each argument reads behind the call as it read before'; 0 by the template 'total and deterministic' (their statements: YtaafnkhemklpeaaTotals.lean).
  GIVEN WITH THE SEED: the statements are not yours to turn. If you find one false, say at which input.
  Laid BY PROGRAM, IN A SANDBOX (cutbox-rows.mjs): the forced cells as the released guide's own fill.sh prints them over the translation 86f2ad63b5d7e7d6… (all of the seat's roots in one cut). By AI agents, Wed Nov 11 2026. No macro, syntax, notation, axiom, sorry.
-/
import Derived.Test.YtaafnkhemklpeaaChecked
import GoSem.Claim
import GoSem.ClaimJoined
import GoSem.ClaimMapViews
import Derived.JoinedTies
import Derived.KernelRfl
namespace Go.Proofs.Ytaafnkhemklpeaa
/- THE CELL 'sum', in the pinned program and in every row, IS THE sha256 OF THE DUMP (.gsa) THAT YtaafnkhemklpeaaProg.lean LOADS. Nothing in Lean hashes anything: it is a label: what it is worth is what the hold of that sum in a sandbox is worth. -/
noncomputable def Try.pinned : Pinned := { name := "ytaafnkhemklpeaa", sum := "86f2ad63b5d7e7d6f1559043dcafd55d0241becaf918aebde1cbde3ce3729c7b", checked := Try.checked }
namespace Rows
def none {H : Type} : Left H := { results := [], args := [] }

/-- 'refectorylaw01.RunesAll': WHATEVER THE INPUT: true; the input reads as it did. -/
def runesAllSpec : ChangeSpec := { name := "runesAll", fn := fun _ => fun
  | [d] => { results := [.lit (.bool true)], args := [d] }
  | _ => none }
def runesAllRow : OpenClaim := { program := "ytaafnkhemklpeaa", sum := "86f2ad63b5d7e7d6f1559043dcafd55d0241becaf918aebde1cbde3ce3729c7b", func := "refectory/refectorylaw01.RunesAll", spec := "runesAll", inPlace := ["internal/abi.NoEscape"], apart := false }
def RunesAllSaid : Prop := runesAllRow.holds Try.pinned (OpenSpec.ofChange runesAllSpec)

/-- ITS FALSE NEIGHBOUR: 'it returns false'. Refute it at one input. -/
def runesAllWrong : ChangeSpec := { name := "runesAll", fn := fun _ => fun
  | [d] => { results := [.lit (.bool false)], args := [d] }
  | _ => none }
def RunesAllWrongFalsely : Prop := runesAllRow.holds Try.pinned (OpenSpec.ofChange runesAllWrong)

/-- 'refectorylaw01.RunesBack': WHATEVER THE INPUT: true; the input reads as it did. -/
def runesBackSpec : ChangeSpec := { name := "runesBack", fn := fun _ => fun
  | [d1, d2] => { results := [.lit (.bool true)], args := [d1, d2] }
  | _ => none }
def runesBackRow : OpenClaim := { program := "ytaafnkhemklpeaa", sum := "86f2ad63b5d7e7d6f1559043dcafd55d0241becaf918aebde1cbde3ce3729c7b", func := "refectory/refectorylaw01.RunesBack", spec := "runesBack", inPlace := ["internal/abi.NoEscape"], apart := false }
def RunesBackSaid : Prop := runesBackRow.holds Try.pinned (OpenSpec.ofChange runesBackSpec)

/-- ITS FALSE NEIGHBOUR: 'it returns false'. Refute it at one input. -/
def runesBackWrong : ChangeSpec := { name := "runesBack", fn := fun _ => fun
  | [d1, d2] => { results := [.lit (.bool false)], args := [d1, d2] }
  | _ => none }
def RunesBackWrongFalsely : Prop := runesBackRow.holds Try.pinned (OpenSpec.ofChange runesBackWrong)

/-- 'refectorylaw01.RunesPoints': WHATEVER THE INPUT: true; the input reads as it did. -/
def runesPointsSpec : ChangeSpec := { name := "runesPoints", fn := fun _ => fun
  | [d1, d2] => { results := [.lit (.bool true)], args := [d1, d2] }
  | _ => none }
def runesPointsRow : OpenClaim := { program := "ytaafnkhemklpeaa", sum := "86f2ad63b5d7e7d6f1559043dcafd55d0241becaf918aebde1cbde3ce3729c7b", func := "refectory/refectorylaw01.RunesPoints", spec := "runesPoints", inPlace := ["internal/abi.NoEscape"], unfollowed := true, recurses := true, apart := false }
def RunesPointsSaid : Prop := runesPointsRow.holds Try.pinned (OpenSpec.ofChange runesPointsSpec)

/-- ITS FALSE NEIGHBOUR: 'it returns false'. Refute it at one input. -/
def runesPointsWrong : ChangeSpec := { name := "runesPoints", fn := fun _ => fun
  | [d1, d2] => { results := [.lit (.bool false)], args := [d1, d2] }
  | _ => none }
def RunesPointsWrongFalsely : Prop := runesPointsRow.holds Try.pinned (OpenSpec.ofChange runesPointsWrong)

/-- 'refectorylaw01.RunesBlocks': WHATEVER THE INPUT: true; the input reads as it did. -/
def runesBlocksSpec : ChangeSpec := { name := "runesBlocks", fn := fun _ => fun
  | [d1, d2] => { results := [.lit (.bool true)], args := [d1, d2] }
  | _ => none }
def runesBlocksRow : OpenClaim := { program := "ytaafnkhemklpeaa", sum := "86f2ad63b5d7e7d6f1559043dcafd55d0241becaf918aebde1cbde3ce3729c7b", func := "refectory/refectorylaw01.RunesBlocks", spec := "runesBlocks", inPlace := ["internal/abi.NoEscape"], apart := false }
def RunesBlocksSaid : Prop := runesBlocksRow.holds Try.pinned (OpenSpec.ofChange runesBlocksSpec)

/-- ITS FALSE NEIGHBOUR: 'it returns false'. Refute it at one input. -/
def runesBlocksWrong : ChangeSpec := { name := "runesBlocks", fn := fun _ => fun
  | [d1, d2] => { results := [.lit (.bool false)], args := [d1, d2] }
  | _ => none }
def RunesBlocksWrongFalsely : Prop := runesBlocksRow.holds Try.pinned (OpenSpec.ofChange runesBlocksWrong)

/-- 'refectorylaw01.RunesNames': WHATEVER THE INPUT: true; the input reads as it did. -/
def runesNamesSpec : ChangeSpec := { name := "runesNames", fn := fun _ => fun
  | [d1, d2] => { results := [.lit (.bool true)], args := [d1, d2] }
  | _ => none }
def runesNamesRow : OpenClaim := { program := "ytaafnkhemklpeaa", sum := "86f2ad63b5d7e7d6f1559043dcafd55d0241becaf918aebde1cbde3ce3729c7b", func := "refectory/refectorylaw01.RunesNames", spec := "runesNames", inPlace := ["internal/abi.NoEscape"], apart := false }
def RunesNamesSaid : Prop := runesNamesRow.holds Try.pinned (OpenSpec.ofChange runesNamesSpec)

/-- ITS FALSE NEIGHBOUR: 'it returns false'. Refute it at one input. -/
def runesNamesWrong : ChangeSpec := { name := "runesNames", fn := fun _ => fun
  | [d1, d2] => { results := [.lit (.bool false)], args := [d1, d2] }
  | _ => none }
def RunesNamesWrongFalsely : Prop := runesNamesRow.holds Try.pinned (OpenSpec.ofChange runesNamesWrong)

/-- 'refectorylaw01.RunesWrong': WHATEVER THE INPUT: true; the input reads as it did. -/
def runesWrongSpec : ChangeSpec := { name := "runesWrong", fn := fun _ => fun
  | [d1, d2, d3] => { results := [.lit (.bool true)], args := [d1, d2, d3] }
  | _ => none }
def runesWrongRow : OpenClaim := { program := "ytaafnkhemklpeaa", sum := "86f2ad63b5d7e7d6f1559043dcafd55d0241becaf918aebde1cbde3ce3729c7b", func := "refectory/refectorylaw01.RunesWrong", spec := "runesWrong", inPlace := ["internal/abi.NoEscape"], apart := false }
def RunesWrongSaid : Prop := runesWrongRow.holds Try.pinned (OpenSpec.ofChange runesWrongSpec)

/-- ITS FALSE NEIGHBOUR: 'it returns false'. Refute it at one input. -/
def runesWrongWrong : ChangeSpec := { name := "runesWrong", fn := fun _ => fun
  | [d1, d2, d3] => { results := [.lit (.bool false)], args := [d1, d2, d3] }
  | _ => none }
def RunesWrongWrongFalsely : Prop := runesWrongRow.holds Try.pinned (OpenSpec.ofChange runesWrongWrong)

/- THE SECOND FORM. 'bulk': how many values and letters a reading holds, each counted each time it is reached (what is shared counts as often as it is met; a slice's spare places count too). A statement '..UptoSaid' is the law's where the arguments, and the package variables that the reading takes, are together of bulk at most 1048576: NARROWER than '..Said'. Prove '..Said' where nothing that the law and all that it calls make is longer than what came in: it says more and counts as full. Else prove '..UptoSaid'. A law counts once. -/
mutual
def uptoBulk {H : Type} : DataW H → Nat
  | .lit (.string bytes) => bytes.length + 1
  | .lit _ => 1
  | .nil => 1
  | .ptr d => uptoBulk d + 1
  | .slice elems spare => uptoBulkAll elems + uptoBulkAll spare + 1
  | .agg parts => uptoBulkAll parts + 1
  | .iface _ d => uptoBulk d + 1
  | .map entries => uptoBulkEntries entries + 1
  | .held _ => 1
def uptoBulkAll {H : Type} : List (DataW H) → Nat
  | [] => 0
  | d :: r => uptoBulk d + uptoBulkAll r
def uptoBulkEntries {H : Type} : List (Lit × DataW H) → Nat
  | [] => 0
  | x :: r => uptoBulkEntry x + uptoBulkEntries r
def uptoBulkEntry {H : Type} : Lit × DataW H → Nat
  | (.string bytes, d) => bytes.length + uptoBulk d + 1
  | (_, d) => uptoBulk d + 1
 end
def uptoSmall : (H : Type) → List (DataW H) → Bool := fun _ ds => decide (uptoBulkAll ds ≤ 1048576)
def OpenSpec.upto (s : _root_.Go.ChangeSpec) : _root_.Go.OpenSpec := { _root_.Go.OpenSpec.ofChange s with cond := some uptoSmall }

/-- 'refectorylaw01.RunesAll', WHERE WHAT IT READS IS OF BULK AT MOST 1048576: true; the input reads as it did. -/
def runesAllUptoRow : OpenClaim := { program := "ytaafnkhemklpeaa", sum := "86f2ad63b5d7e7d6f1559043dcafd55d0241becaf918aebde1cbde3ce3729c7b", func := "refectory/refectorylaw01.RunesAll", spec := "runesAll", inPlace := ["internal/abi.NoEscape"], apart := false, narrowed := true }
def RunesAllUptoSaid : Prop := runesAllUptoRow.holds Try.pinned (OpenSpec.upto runesAllSpec)

/-- 'refectorylaw01.RunesBack', WHERE WHAT IT READS IS OF BULK AT MOST 1048576: true; the input reads as it did. -/
def runesBackUptoRow : OpenClaim := { program := "ytaafnkhemklpeaa", sum := "86f2ad63b5d7e7d6f1559043dcafd55d0241becaf918aebde1cbde3ce3729c7b", func := "refectory/refectorylaw01.RunesBack", spec := "runesBack", inPlace := ["internal/abi.NoEscape"], apart := false, narrowed := true }
def RunesBackUptoSaid : Prop := runesBackUptoRow.holds Try.pinned (OpenSpec.upto runesBackSpec)

/-- 'refectorylaw01.RunesPoints', WHERE WHAT IT READS IS OF BULK AT MOST 1048576: true; the input reads as it did. -/
def runesPointsUptoRow : OpenClaim := { program := "ytaafnkhemklpeaa", sum := "86f2ad63b5d7e7d6f1559043dcafd55d0241becaf918aebde1cbde3ce3729c7b", func := "refectory/refectorylaw01.RunesPoints", spec := "runesPoints", inPlace := ["internal/abi.NoEscape"], unfollowed := true, recurses := true, apart := false, narrowed := true }
def RunesPointsUptoSaid : Prop := runesPointsUptoRow.holds Try.pinned (OpenSpec.upto runesPointsSpec)

/-- 'refectorylaw01.RunesBlocks', WHERE WHAT IT READS IS OF BULK AT MOST 1048576: true; the input reads as it did. -/
def runesBlocksUptoRow : OpenClaim := { program := "ytaafnkhemklpeaa", sum := "86f2ad63b5d7e7d6f1559043dcafd55d0241becaf918aebde1cbde3ce3729c7b", func := "refectory/refectorylaw01.RunesBlocks", spec := "runesBlocks", inPlace := ["internal/abi.NoEscape"], apart := false, narrowed := true }
def RunesBlocksUptoSaid : Prop := runesBlocksUptoRow.holds Try.pinned (OpenSpec.upto runesBlocksSpec)

/-- 'refectorylaw01.RunesNames', WHERE WHAT IT READS IS OF BULK AT MOST 1048576: true; the input reads as it did. -/
def runesNamesUptoRow : OpenClaim := { program := "ytaafnkhemklpeaa", sum := "86f2ad63b5d7e7d6f1559043dcafd55d0241becaf918aebde1cbde3ce3729c7b", func := "refectory/refectorylaw01.RunesNames", spec := "runesNames", inPlace := ["internal/abi.NoEscape"], apart := false, narrowed := true }
def RunesNamesUptoSaid : Prop := runesNamesUptoRow.holds Try.pinned (OpenSpec.upto runesNamesSpec)

/-- 'refectorylaw01.RunesWrong', WHERE WHAT IT READS IS OF BULK AT MOST 1048576: true; the input reads as it did. -/
def runesWrongUptoRow : OpenClaim := { program := "ytaafnkhemklpeaa", sum := "86f2ad63b5d7e7d6f1559043dcafd55d0241becaf918aebde1cbde3ce3729c7b", func := "refectory/refectorylaw01.RunesWrong", spec := "runesWrong", inPlace := ["internal/abi.NoEscape"], apart := false, narrowed := true }
def RunesWrongUptoSaid : Prop := runesWrongUptoRow.holds Try.pinned (OpenSpec.upto runesWrongSpec)

end Rows
end Go.Proofs.Ytaafnkhemklpeaa
