/-
  No cell of these rows narrows 'for every input' (looked for: loops, veiled, ifaces, maps, wideKeys, modest, calm, conditions, laid).
  DERIVED. THE GIVEN ROWS OF THIS SEAT. 11 by the template 'for every input the law returns true; each argument reads behind the call as it read before'; 0 by the template 'total and deterministic' (their statements: YtfnjadiibiedgabTotals.lean).
  GIVEN WITH THE SEED: the statements are not yours to turn. If you find one false, say at which input.
  Laid BY PROGRAM, IN A SANDBOX (cutbox-rows.mjs): the forced cells as the released guide's own fill.sh prints them over the translation 92cbb4f2fc04ebe9… (all of the seat's roots in one cut). By AI agents, Wed Nov 11 2026. No macro, syntax, notation, axiom, sorry.
-/
import Derived.Test.YtfnjadiibiedgabChecked
import GoSem.Claim
import GoSem.ClaimJoined
import GoSem.ClaimMapViews
import Derived.JoinedTies
import Derived.KernelRfl
namespace Go.Proofs.Ytfnjadiibiedgab
/- THE CELL 'sum', in the pinned program and in every row, IS THE sha256 OF THE DUMP (.gsa) THAT YtfnjadiibiedgabProg.lean LOADS. Nothing in Lean hashes anything: it is a label: what it is worth is what the hold of that sum in a sandbox is worth. -/
noncomputable def Try.pinned : Pinned := { name := "ytfnjadiibiedgab", sum := "92cbb4f2fc04ebe98740d4e0f756570ad96b6b9024bb6974fb2ec2519bf7cafe", checked := Try.checked }
namespace Rows
def none {H : Type} : Left H := { results := [], args := [] }

/-- 'splicelaw05.TableParts': WHATEVER THE INPUT: true; the input reads as it did. -/
def tablePartsSpec : ChangeSpec := { name := "tableParts", fn := fun _ => fun
  | [d1, d2, d3] => { results := [.lit (.bool true)], args := [d1, d2, d3] }
  | _ => none }
def tablePartsRow : OpenClaim := { program := "ytfnjadiibiedgab", sum := "92cbb4f2fc04ebe98740d4e0f756570ad96b6b9024bb6974fb2ec2519bf7cafe", func := "splice/splicelaw05.TableParts", spec := "tableParts", inPlace := ["slices.overlaps[splice/api.Pair]"], unfollowed := true, recurses := true, plainKeys := false, apart := false }
def TablePartsSaid : Prop := tablePartsRow.holds Try.pinned (OpenSpec.ofChange tablePartsSpec)

/-- ITS FALSE NEIGHBOUR: 'it returns false'. Refute it at one input. -/
def tablePartsWrong : ChangeSpec := { name := "tableParts", fn := fun _ => fun
  | [d1, d2, d3] => { results := [.lit (.bool false)], args := [d1, d2, d3] }
  | _ => none }
def TablePartsWrongFalsely : Prop := tablePartsRow.holds Try.pinned (OpenSpec.ofChange tablePartsWrong)

/-- 'splicelaw05.TableKeys': WHATEVER THE INPUT: true; the input reads as it did. -/
def tableKeysSpec : ChangeSpec := { name := "tableKeys", fn := fun _ => fun
  | [d1, d2, d3] => { results := [.lit (.bool true)], args := [d1, d2, d3] }
  | _ => none }
def tableKeysRow : OpenClaim := { program := "ytfnjadiibiedgab", sum := "92cbb4f2fc04ebe98740d4e0f756570ad96b6b9024bb6974fb2ec2519bf7cafe", func := "splice/splicelaw05.TableKeys", spec := "tableKeys", inPlace := ["slices.overlaps[splice/api.Pair]"], unfollowed := true, recurses := true, plainKeys := false, apart := false }
def TableKeysSaid : Prop := tableKeysRow.holds Try.pinned (OpenSpec.ofChange tableKeysSpec)

/-- ITS FALSE NEIGHBOUR: 'it returns false'. Refute it at one input. -/
def tableKeysWrong : ChangeSpec := { name := "tableKeys", fn := fun _ => fun
  | [d1, d2, d3] => { results := [.lit (.bool false)], args := [d1, d2, d3] }
  | _ => none }
def TableKeysWrongFalsely : Prop := tableKeysRow.holds Try.pinned (OpenSpec.ofChange tableKeysWrong)

/-- 'splicelaw05.TableFails': WHATEVER THE INPUT: true; the input reads as it did. -/
def tableFailsSpec : ChangeSpec := { name := "tableFails", fn := fun _ => fun
  | [d1, d2, d3] => { results := [.lit (.bool true)], args := [d1, d2, d3] }
  | _ => none }
def tableFailsRow : OpenClaim := { program := "ytfnjadiibiedgab", sum := "92cbb4f2fc04ebe98740d4e0f756570ad96b6b9024bb6974fb2ec2519bf7cafe", func := "splice/splicelaw05.TableFails", spec := "tableFails", inPlace := ["slices.overlaps[splice/api.Pair]"], unfollowed := true, recurses := true, plainKeys := false, apart := false }
def TableFailsSaid : Prop := tableFailsRow.holds Try.pinned (OpenSpec.ofChange tableFailsSpec)

/-- ITS FALSE NEIGHBOUR: 'it returns false'. Refute it at one input. -/
def tableFailsWrong : ChangeSpec := { name := "tableFails", fn := fun _ => fun
  | [d1, d2, d3] => { results := [.lit (.bool false)], args := [d1, d2, d3] }
  | _ => none }
def TableFailsWrongFalsely : Prop := tableFailsRow.holds Try.pinned (OpenSpec.ofChange tableFailsWrong)

/-- 'splicelaw05.TableNone': WHATEVER THE INPUT: true; the input reads as it did. -/
def tableNoneSpec : ChangeSpec := { name := "tableNone", fn := fun _ => fun
  | [d1, d2, d3] => { results := [.lit (.bool true)], args := [d1, d2, d3] }
  | _ => none }
def tableNoneRow : OpenClaim := { program := "ytfnjadiibiedgab", sum := "92cbb4f2fc04ebe98740d4e0f756570ad96b6b9024bb6974fb2ec2519bf7cafe", func := "splice/splicelaw05.TableNone", spec := "tableNone", inPlace := ["slices.overlaps[splice/api.Pair]"], unfollowed := true, recurses := true, plainKeys := false, apart := false }
def TableNoneSaid : Prop := tableNoneRow.holds Try.pinned (OpenSpec.ofChange tableNoneSpec)

/-- ITS FALSE NEIGHBOUR: 'it returns false'. Refute it at one input. -/
def tableNoneWrong : ChangeSpec := { name := "tableNone", fn := fun _ => fun
  | [d1, d2, d3] => { results := [.lit (.bool false)], args := [d1, d2, d3] }
  | _ => none }
def TableNoneWrongFalsely : Prop := tableNoneRow.holds Try.pinned (OpenSpec.ofChange tableNoneWrong)

/-- 'splicelaw05.TableTwice': WHATEVER THE INPUT: true; the input reads as it did. -/
def tableTwiceSpec : ChangeSpec := { name := "tableTwice", fn := fun _ => fun
  | [d1, d2, d3] => { results := [.lit (.bool true)], args := [d1, d2, d3] }
  | _ => none }
def tableTwiceRow : OpenClaim := { program := "ytfnjadiibiedgab", sum := "92cbb4f2fc04ebe98740d4e0f756570ad96b6b9024bb6974fb2ec2519bf7cafe", func := "splice/splicelaw05.TableTwice", spec := "tableTwice", inPlace := ["slices.overlaps[splice/api.Pair]"], unfollowed := true, recurses := true, plainKeys := false, apart := false }
def TableTwiceSaid : Prop := tableTwiceRow.holds Try.pinned (OpenSpec.ofChange tableTwiceSpec)

/-- ITS FALSE NEIGHBOUR: 'it returns false'. Refute it at one input. -/
def tableTwiceWrong : ChangeSpec := { name := "tableTwice", fn := fun _ => fun
  | [d1, d2, d3] => { results := [.lit (.bool false)], args := [d1, d2, d3] }
  | _ => none }
def TableTwiceWrongFalsely : Prop := tableTwiceRow.holds Try.pinned (OpenSpec.ofChange tableTwiceWrong)

/-- 'splicelaw05.TableFar': WHATEVER THE INPUT: true; the input reads as it did. -/
def tableFarSpec : ChangeSpec := { name := "tableFar", fn := fun _ => fun
  | [d1, d2, d3] => { results := [.lit (.bool true)], args := [d1, d2, d3] }
  | _ => none }
def tableFarRow : OpenClaim := { program := "ytfnjadiibiedgab", sum := "92cbb4f2fc04ebe98740d4e0f756570ad96b6b9024bb6974fb2ec2519bf7cafe", func := "splice/splicelaw05.TableFar", spec := "tableFar", inPlace := ["slices.overlaps[splice/api.Pair]"], unfollowed := true, recurses := true, plainKeys := false, apart := false }
def TableFarSaid : Prop := tableFarRow.holds Try.pinned (OpenSpec.ofChange tableFarSpec)

/-- ITS FALSE NEIGHBOUR: 'it returns false'. Refute it at one input. -/
def tableFarWrong : ChangeSpec := { name := "tableFar", fn := fun _ => fun
  | [d1, d2, d3] => { results := [.lit (.bool false)], args := [d1, d2, d3] }
  | _ => none }
def TableFarWrongFalsely : Prop := tableFarRow.holds Try.pinned (OpenSpec.ofChange tableFarWrong)

/-- 'splicelaw06.HoldPlays': WHATEVER THE INPUT: true; the input reads as it did. -/
def holdPlaysSpec : ChangeSpec := { name := "holdPlays", fn := fun _ => fun
  | [d1, d2] => { results := [.lit (.bool true)], args := [d1, d2] }
  | _ => none }
def holdPlaysRow : OpenClaim := { program := "ytfnjadiibiedgab", sum := "92cbb4f2fc04ebe98740d4e0f756570ad96b6b9024bb6974fb2ec2519bf7cafe", func := "splice/splicelaw06.HoldPlays", spec := "holdPlays", unfollowed := true, recurses := true, plainKeys := false, apart := false }
def HoldPlaysSaid : Prop := holdPlaysRow.holds Try.pinned (OpenSpec.ofChange holdPlaysSpec)

/-- ITS FALSE NEIGHBOUR: 'it returns false'. Refute it at one input. -/
def holdPlaysWrong : ChangeSpec := { name := "holdPlays", fn := fun _ => fun
  | [d1, d2] => { results := [.lit (.bool false)], args := [d1, d2] }
  | _ => none }
def HoldPlaysWrongFalsely : Prop := holdPlaysRow.holds Try.pinned (OpenSpec.ofChange holdPlaysWrong)

/-- 'splicelaw06.HoldRises': WHATEVER THE INPUT: true; the input reads as it did. -/
def holdRisesSpec : ChangeSpec := { name := "holdRises", fn := fun _ => fun
  | [d] => { results := [.lit (.bool true)], args := [d] }
  | _ => none }
def holdRisesRow : OpenClaim := { program := "ytfnjadiibiedgab", sum := "92cbb4f2fc04ebe98740d4e0f756570ad96b6b9024bb6974fb2ec2519bf7cafe", func := "splice/splicelaw06.HoldRises", spec := "holdRises", unfollowed := true, recurses := true, plainKeys := false, apart := false }
def HoldRisesSaid : Prop := holdRisesRow.holds Try.pinned (OpenSpec.ofChange holdRisesSpec)

/-- ITS FALSE NEIGHBOUR: 'it returns false'. Refute it at one input. -/
def holdRisesWrong : ChangeSpec := { name := "holdRises", fn := fun _ => fun
  | [d] => { results := [.lit (.bool false)], args := [d] }
  | _ => none }
def HoldRisesWrongFalsely : Prop := holdRisesRow.holds Try.pinned (OpenSpec.ofChange holdRisesWrong)

/-- 'splicelaw06.HoldAll': WHATEVER THE INPUT: true; the input reads as it did. -/
def holdAllSpec : ChangeSpec := { name := "holdAll", fn := fun _ => fun
  | [d] => { results := [.lit (.bool true)], args := [d] }
  | _ => none }
def holdAllRow : OpenClaim := { program := "ytfnjadiibiedgab", sum := "92cbb4f2fc04ebe98740d4e0f756570ad96b6b9024bb6974fb2ec2519bf7cafe", func := "splice/splicelaw06.HoldAll", spec := "holdAll", unfollowed := true, recurses := true, plainKeys := false, apart := false }
def HoldAllSaid : Prop := holdAllRow.holds Try.pinned (OpenSpec.ofChange holdAllSpec)

/-- ITS FALSE NEIGHBOUR: 'it returns false'. Refute it at one input. -/
def holdAllWrong : ChangeSpec := { name := "holdAll", fn := fun _ => fun
  | [d] => { results := [.lit (.bool false)], args := [d] }
  | _ => none }
def HoldAllWrongFalsely : Prop := holdAllRow.holds Try.pinned (OpenSpec.ofChange holdAllWrong)

/-- 'splicelaw06.HoldBlocks': WHATEVER THE INPUT: true; the input reads as it did. -/
def holdBlocksSpec : ChangeSpec := { name := "holdBlocks", fn := fun _ => fun
  | [d1, d2] => { results := [.lit (.bool true)], args := [d1, d2] }
  | _ => none }
def holdBlocksRow : OpenClaim := { program := "ytfnjadiibiedgab", sum := "92cbb4f2fc04ebe98740d4e0f756570ad96b6b9024bb6974fb2ec2519bf7cafe", func := "splice/splicelaw06.HoldBlocks", spec := "holdBlocks", unfollowed := true, recurses := true, plainKeys := false, apart := false }
def HoldBlocksSaid : Prop := holdBlocksRow.holds Try.pinned (OpenSpec.ofChange holdBlocksSpec)

/-- ITS FALSE NEIGHBOUR: 'it returns false'. Refute it at one input. -/
def holdBlocksWrong : ChangeSpec := { name := "holdBlocks", fn := fun _ => fun
  | [d1, d2] => { results := [.lit (.bool false)], args := [d1, d2] }
  | _ => none }
def HoldBlocksWrongFalsely : Prop := holdBlocksRow.holds Try.pinned (OpenSpec.ofChange holdBlocksWrong)

/-- 'splicelaw06.HoldOwn': WHATEVER THE INPUT: true; the input reads as it did. -/
def holdOwnSpec : ChangeSpec := { name := "holdOwn", fn := fun _ => fun
  | [d] => { results := [.lit (.bool true)], args := [d] }
  | _ => none }
def holdOwnRow : OpenClaim := { program := "ytfnjadiibiedgab", sum := "92cbb4f2fc04ebe98740d4e0f756570ad96b6b9024bb6974fb2ec2519bf7cafe", func := "splice/splicelaw06.HoldOwn", spec := "holdOwn", unfollowed := true, recurses := true, plainKeys := false, apart := false }
def HoldOwnSaid : Prop := holdOwnRow.holds Try.pinned (OpenSpec.ofChange holdOwnSpec)

/-- ITS FALSE NEIGHBOUR: 'it returns false'. Refute it at one input. -/
def holdOwnWrong : ChangeSpec := { name := "holdOwn", fn := fun _ => fun
  | [d] => { results := [.lit (.bool false)], args := [d] }
  | _ => none }
def HoldOwnWrongFalsely : Prop := holdOwnRow.holds Try.pinned (OpenSpec.ofChange holdOwnWrong)

/- THE SECOND FORM. 'bulk': how many values and letters a reading holds, each counted each time it is reached (what is shared counts as often as it is met; a slice's spare places count too). A statement '..UptoSaid' is the law's where the arguments, and the package variables that the reading takes, are together of bulk at most 1048576: NARROWER than '..Said'. Prove '..Said' where nothing that the law and all that it calls make is longer than what came in: it says more and counts as full. Else prove '..UptoSaid'. A law counts once. -/
mutual
def uptoBulk {H : Type} : DataW H → Nat
  | .lit (.string bytes) => bytes.length + 1
  | .lit _ => 1
  | .nil => 1
  | .ptr d => uptoBulk d + 1
  | .slice elems spare => uptoBulkAll elems + uptoBulkAll spare + 1
  | .agg parts => uptoBulkAll parts + 1
  | .iface _ d => uptoBulk d + 1
  | .map entries => uptoBulkEntries entries + 1
  | .held _ => 1
def uptoBulkAll {H : Type} : List (DataW H) → Nat
  | [] => 0
  | d :: r => uptoBulk d + uptoBulkAll r
def uptoBulkEntries {H : Type} : List (Lit × DataW H) → Nat
  | [] => 0
  | x :: r => uptoBulkEntry x + uptoBulkEntries r
def uptoBulkEntry {H : Type} : Lit × DataW H → Nat
  | (.string bytes, d) => bytes.length + uptoBulk d + 1
  | (_, d) => uptoBulk d + 1
 end
def uptoSmall : (H : Type) → List (DataW H) → Bool := fun _ ds => decide (uptoBulkAll ds ≤ 1048576)
def OpenSpec.upto (s : _root_.Go.ChangeSpec) : _root_.Go.OpenSpec := { _root_.Go.OpenSpec.ofChange s with cond := some uptoSmall }

/-- 'splicelaw05.TableParts', WHERE WHAT IT READS IS OF BULK AT MOST 1048576: true; the input reads as it did. -/
def tablePartsUptoRow : OpenClaim := { program := "ytfnjadiibiedgab", sum := "92cbb4f2fc04ebe98740d4e0f756570ad96b6b9024bb6974fb2ec2519bf7cafe", func := "splice/splicelaw05.TableParts", spec := "tableParts", inPlace := ["slices.overlaps[splice/api.Pair]"], unfollowed := true, recurses := true, plainKeys := false, apart := false, narrowed := true }
def TablePartsUptoSaid : Prop := tablePartsUptoRow.holds Try.pinned (OpenSpec.upto tablePartsSpec)

/-- 'splicelaw05.TableKeys', WHERE WHAT IT READS IS OF BULK AT MOST 1048576: true; the input reads as it did. -/
def tableKeysUptoRow : OpenClaim := { program := "ytfnjadiibiedgab", sum := "92cbb4f2fc04ebe98740d4e0f756570ad96b6b9024bb6974fb2ec2519bf7cafe", func := "splice/splicelaw05.TableKeys", spec := "tableKeys", inPlace := ["slices.overlaps[splice/api.Pair]"], unfollowed := true, recurses := true, plainKeys := false, apart := false, narrowed := true }
def TableKeysUptoSaid : Prop := tableKeysUptoRow.holds Try.pinned (OpenSpec.upto tableKeysSpec)

/-- 'splicelaw05.TableFails', WHERE WHAT IT READS IS OF BULK AT MOST 1048576: true; the input reads as it did. -/
def tableFailsUptoRow : OpenClaim := { program := "ytfnjadiibiedgab", sum := "92cbb4f2fc04ebe98740d4e0f756570ad96b6b9024bb6974fb2ec2519bf7cafe", func := "splice/splicelaw05.TableFails", spec := "tableFails", inPlace := ["slices.overlaps[splice/api.Pair]"], unfollowed := true, recurses := true, plainKeys := false, apart := false, narrowed := true }
def TableFailsUptoSaid : Prop := tableFailsUptoRow.holds Try.pinned (OpenSpec.upto tableFailsSpec)

/-- 'splicelaw05.TableNone', WHERE WHAT IT READS IS OF BULK AT MOST 1048576: true; the input reads as it did. -/
def tableNoneUptoRow : OpenClaim := { program := "ytfnjadiibiedgab", sum := "92cbb4f2fc04ebe98740d4e0f756570ad96b6b9024bb6974fb2ec2519bf7cafe", func := "splice/splicelaw05.TableNone", spec := "tableNone", inPlace := ["slices.overlaps[splice/api.Pair]"], unfollowed := true, recurses := true, plainKeys := false, apart := false, narrowed := true }
def TableNoneUptoSaid : Prop := tableNoneUptoRow.holds Try.pinned (OpenSpec.upto tableNoneSpec)

/-- 'splicelaw05.TableTwice', WHERE WHAT IT READS IS OF BULK AT MOST 1048576: true; the input reads as it did. -/
def tableTwiceUptoRow : OpenClaim := { program := "ytfnjadiibiedgab", sum := "92cbb4f2fc04ebe98740d4e0f756570ad96b6b9024bb6974fb2ec2519bf7cafe", func := "splice/splicelaw05.TableTwice", spec := "tableTwice", inPlace := ["slices.overlaps[splice/api.Pair]"], unfollowed := true, recurses := true, plainKeys := false, apart := false, narrowed := true }
def TableTwiceUptoSaid : Prop := tableTwiceUptoRow.holds Try.pinned (OpenSpec.upto tableTwiceSpec)

/-- 'splicelaw05.TableFar', WHERE WHAT IT READS IS OF BULK AT MOST 1048576: true; the input reads as it did. -/
def tableFarUptoRow : OpenClaim := { program := "ytfnjadiibiedgab", sum := "92cbb4f2fc04ebe98740d4e0f756570ad96b6b9024bb6974fb2ec2519bf7cafe", func := "splice/splicelaw05.TableFar", spec := "tableFar", inPlace := ["slices.overlaps[splice/api.Pair]"], unfollowed := true, recurses := true, plainKeys := false, apart := false, narrowed := true }
def TableFarUptoSaid : Prop := tableFarUptoRow.holds Try.pinned (OpenSpec.upto tableFarSpec)

/-- 'splicelaw06.HoldPlays', WHERE WHAT IT READS IS OF BULK AT MOST 1048576: true; the input reads as it did. -/
def holdPlaysUptoRow : OpenClaim := { program := "ytfnjadiibiedgab", sum := "92cbb4f2fc04ebe98740d4e0f756570ad96b6b9024bb6974fb2ec2519bf7cafe", func := "splice/splicelaw06.HoldPlays", spec := "holdPlays", unfollowed := true, recurses := true, plainKeys := false, apart := false, narrowed := true }
def HoldPlaysUptoSaid : Prop := holdPlaysUptoRow.holds Try.pinned (OpenSpec.upto holdPlaysSpec)

/-- 'splicelaw06.HoldRises', WHERE WHAT IT READS IS OF BULK AT MOST 1048576: true; the input reads as it did. -/
def holdRisesUptoRow : OpenClaim := { program := "ytfnjadiibiedgab", sum := "92cbb4f2fc04ebe98740d4e0f756570ad96b6b9024bb6974fb2ec2519bf7cafe", func := "splice/splicelaw06.HoldRises", spec := "holdRises", unfollowed := true, recurses := true, plainKeys := false, apart := false, narrowed := true }
def HoldRisesUptoSaid : Prop := holdRisesUptoRow.holds Try.pinned (OpenSpec.upto holdRisesSpec)

/-- 'splicelaw06.HoldAll', WHERE WHAT IT READS IS OF BULK AT MOST 1048576: true; the input reads as it did. -/
def holdAllUptoRow : OpenClaim := { program := "ytfnjadiibiedgab", sum := "92cbb4f2fc04ebe98740d4e0f756570ad96b6b9024bb6974fb2ec2519bf7cafe", func := "splice/splicelaw06.HoldAll", spec := "holdAll", unfollowed := true, recurses := true, plainKeys := false, apart := false, narrowed := true }
def HoldAllUptoSaid : Prop := holdAllUptoRow.holds Try.pinned (OpenSpec.upto holdAllSpec)

/-- 'splicelaw06.HoldBlocks', WHERE WHAT IT READS IS OF BULK AT MOST 1048576: true; the input reads as it did. -/
def holdBlocksUptoRow : OpenClaim := { program := "ytfnjadiibiedgab", sum := "92cbb4f2fc04ebe98740d4e0f756570ad96b6b9024bb6974fb2ec2519bf7cafe", func := "splice/splicelaw06.HoldBlocks", spec := "holdBlocks", unfollowed := true, recurses := true, plainKeys := false, apart := false, narrowed := true }
def HoldBlocksUptoSaid : Prop := holdBlocksUptoRow.holds Try.pinned (OpenSpec.upto holdBlocksSpec)

/-- 'splicelaw06.HoldOwn', WHERE WHAT IT READS IS OF BULK AT MOST 1048576: true; the input reads as it did. -/
def holdOwnUptoRow : OpenClaim := { program := "ytfnjadiibiedgab", sum := "92cbb4f2fc04ebe98740d4e0f756570ad96b6b9024bb6974fb2ec2519bf7cafe", func := "splice/splicelaw06.HoldOwn", spec := "holdOwn", unfollowed := true, recurses := true, plainKeys := false, apart := false, narrowed := true }
def HoldOwnUptoSaid : Prop := holdOwnUptoRow.holds Try.pinned (OpenSpec.upto holdOwnSpec)

end Rows
end Go.Proofs.Ytfnjadiibiedgab
