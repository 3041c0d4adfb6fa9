/-
  No cell of these rows narrows 'for every input' (looked for: loops, veiled, ifaces, maps, wideKeys, modest, calm, conditions, laid).
  DERIVED. THE GIVEN ROWS OF THIS SEAT. 8 by the template 'for every input the law returns true; each argument reads behind the call as it read before'; 0 by the template 'total and deterministic' (their statements: YtcpcdinfagdlhaaTotals.lean).
  GIVEN WITH THE SEED: the statements are not yours to turn. If you find one false, say at which input.
  Laid BY PROGRAM, IN A SANDBOX (cutbox-rows.mjs): the forced cells as the released guide's own fill.sh prints them over the translation 537e10696cbe8e40… (all of the seat's roots in one cut). By AI agents, Wed Nov 11 2026. No macro, syntax, notation, axiom, sorry.
-/
import Derived.Test.YtcpcdinfagdlhaaChecked
import GoSem.Claim
import GoSem.ClaimJoined
import GoSem.ClaimMapViews
import Derived.JoinedTies
import Derived.KernelRfl
namespace Go.Proofs.Ytcpcdinfagdlhaa
/- THE CELL 'sum', in the pinned program and in every row, IS THE sha256 OF THE DUMP (.gsa) THAT YtcpcdinfagdlhaaProg.lean LOADS. Nothing in Lean hashes anything: it is a label: what it is worth is what the hold of that sum in a sandbox is worth. -/
noncomputable def Try.pinned : Pinned := { name := "ytcpcdinfagdlhaa", sum := "537e10696cbe8e40ec00ebbab3701ff2649dc31cc1fd0efc656a6178f653c655", checked := Try.checked }
namespace Rows
def none {H : Type} : Left H := { results := [], args := [] }

/-- 'splicelaw08.ChartOwners': WHATEVER THE INPUT: true; the input reads as it did. -/
def chartOwnersSpec : ChangeSpec := { name := "chartOwners", fn := fun _ => fun
  | [d1, d2, d3] => { results := [.lit (.bool true)], args := [d1, d2, d3] }
  | _ => none }
def chartOwnersRow : OpenClaim := { program := "ytcpcdinfagdlhaa", sum := "537e10696cbe8e40ec00ebbab3701ff2649dc31cc1fd0efc656a6178f653c655", func := "splice/splicelaw08.ChartOwners", spec := "chartOwners", unfollowed := true, recurses := true, apart := false }
def ChartOwnersSaid : Prop := chartOwnersRow.holds Try.pinned (OpenSpec.ofChange chartOwnersSpec)

/-- ITS FALSE NEIGHBOUR: 'it returns false'. Refute it at one input. -/
def chartOwnersWrong : ChangeSpec := { name := "chartOwners", fn := fun _ => fun
  | [d1, d2, d3] => { results := [.lit (.bool false)], args := [d1, d2, d3] }
  | _ => none }
def ChartOwnersWrongFalsely : Prop := chartOwnersRow.holds Try.pinned (OpenSpec.ofChange chartOwnersWrong)

/-- 'splicelaw08.ChartApplies': WHATEVER THE INPUT: true; the input reads as it did. -/
def chartAppliesSpec : ChangeSpec := { name := "chartApplies", fn := fun _ => fun
  | [d1, d2] => { results := [.lit (.bool true)], args := [d1, d2] }
  | _ => none }
def chartAppliesRow : OpenClaim := { program := "ytcpcdinfagdlhaa", sum := "537e10696cbe8e40ec00ebbab3701ff2649dc31cc1fd0efc656a6178f653c655", func := "splice/splicelaw08.ChartApplies", spec := "chartApplies", unfollowed := true, recurses := true, apart := false }
def ChartAppliesSaid : Prop := chartAppliesRow.holds Try.pinned (OpenSpec.ofChange chartAppliesSpec)

/-- ITS FALSE NEIGHBOUR: 'it returns false'. Refute it at one input. -/
def chartAppliesWrong : ChangeSpec := { name := "chartApplies", fn := fun _ => fun
  | [d1, d2] => { results := [.lit (.bool false)], args := [d1, d2] }
  | _ => none }
def ChartAppliesWrongFalsely : Prop := chartAppliesRow.holds Try.pinned (OpenSpec.ofChange chartAppliesWrong)

/-- 'splicelaw08.ChartReads': WHATEVER THE INPUT: true; the input reads as it did. -/
def chartReadsSpec : ChangeSpec := { name := "chartReads", fn := fun _ => fun
  | [d1, d2] => { results := [.lit (.bool true)], args := [d1, d2] }
  | _ => none }
def chartReadsRow : OpenClaim := { program := "ytcpcdinfagdlhaa", sum := "537e10696cbe8e40ec00ebbab3701ff2649dc31cc1fd0efc656a6178f653c655", func := "splice/splicelaw08.ChartReads", spec := "chartReads", inPlace := ["internal/abi.NoEscape"], unfollowed := true, recurses := true, apart := false }
def ChartReadsSaid : Prop := chartReadsRow.holds Try.pinned (OpenSpec.ofChange chartReadsSpec)

/-- ITS FALSE NEIGHBOUR: 'it returns false'. Refute it at one input. -/
def chartReadsWrong : ChangeSpec := { name := "chartReads", fn := fun _ => fun
  | [d1, d2] => { results := [.lit (.bool false)], args := [d1, d2] }
  | _ => none }
def ChartReadsWrongFalsely : Prop := chartReadsRow.holds Try.pinned (OpenSpec.ofChange chartReadsWrong)

/-- 'splicelaw08.ChartBack': WHATEVER THE INPUT: true; the input reads as it did. -/
def chartBackSpec : ChangeSpec := { name := "chartBack", fn := fun _ => fun
  | [d1, d2] => { results := [.lit (.bool true)], args := [d1, d2] }
  | _ => none }
def chartBackRow : OpenClaim := { program := "ytcpcdinfagdlhaa", sum := "537e10696cbe8e40ec00ebbab3701ff2649dc31cc1fd0efc656a6178f653c655", func := "splice/splicelaw08.ChartBack", spec := "chartBack", inPlace := ["internal/abi.NoEscape"], unfollowed := true, recurses := true, apart := false }
def ChartBackSaid : Prop := chartBackRow.holds Try.pinned (OpenSpec.ofChange chartBackSpec)

/-- ITS FALSE NEIGHBOUR: 'it returns false'. Refute it at one input. -/
def chartBackWrong : ChangeSpec := { name := "chartBack", fn := fun _ => fun
  | [d1, d2] => { results := [.lit (.bool false)], args := [d1, d2] }
  | _ => none }
def ChartBackWrongFalsely : Prop := chartBackRow.holds Try.pinned (OpenSpec.ofChange chartBackWrong)

/-- 'splicelaw22.ScanAll': WHATEVER THE INPUT: true; the input reads as it did. -/
def scanAllSpec : ChangeSpec := { name := "scanAll", fn := fun _ => fun
  | [d1, d2] => { results := [.lit (.bool true)], args := [d1, d2] }
  | _ => none }
def scanAllRow : OpenClaim := { program := "ytcpcdinfagdlhaa", sum := "537e10696cbe8e40ec00ebbab3701ff2649dc31cc1fd0efc656a6178f653c655", func := "splice/splicelaw22.ScanAll", spec := "scanAll", unfollowed := true, recurses := true, apart := false }
def ScanAllSaid : Prop := scanAllRow.holds Try.pinned (OpenSpec.ofChange scanAllSpec)

/-- ITS FALSE NEIGHBOUR: 'it returns false'. Refute it at one input. -/
def scanAllWrong : ChangeSpec := { name := "scanAll", fn := fun _ => fun
  | [d1, d2] => { results := [.lit (.bool false)], args := [d1, d2] }
  | _ => none }
def ScanAllWrongFalsely : Prop := scanAllRow.holds Try.pinned (OpenSpec.ofChange scanAllWrong)

/-- 'splicelaw22.ScanGroups': WHATEVER THE INPUT: true; the input reads as it did. -/
def scanGroupsSpec : ChangeSpec := { name := "scanGroups", fn := fun _ => fun
  | [d1, d2, d3] => { results := [.lit (.bool true)], args := [d1, d2, d3] }
  | _ => none }
def scanGroupsRow : OpenClaim := { program := "ytcpcdinfagdlhaa", sum := "537e10696cbe8e40ec00ebbab3701ff2649dc31cc1fd0efc656a6178f653c655", func := "splice/splicelaw22.ScanGroups", spec := "scanGroups", unfollowed := true, recurses := true, apart := false }
def ScanGroupsSaid : Prop := scanGroupsRow.holds Try.pinned (OpenSpec.ofChange scanGroupsSpec)

/-- ITS FALSE NEIGHBOUR: 'it returns false'. Refute it at one input. -/
def scanGroupsWrong : ChangeSpec := { name := "scanGroups", fn := fun _ => fun
  | [d1, d2, d3] => { results := [.lit (.bool false)], args := [d1, d2, d3] }
  | _ => none }
def ScanGroupsWrongFalsely : Prop := scanGroupsRow.holds Try.pinned (OpenSpec.ofChange scanGroupsWrong)

/-- 'splicelaw22.ScanTops': WHATEVER THE INPUT: true; the input reads as it did. -/
def scanTopsSpec : ChangeSpec := { name := "scanTops", fn := fun _ => fun
  | [d1, d2, d3] => { results := [.lit (.bool true)], args := [d1, d2, d3] }
  | _ => none }
def scanTopsRow : OpenClaim := { program := "ytcpcdinfagdlhaa", sum := "537e10696cbe8e40ec00ebbab3701ff2649dc31cc1fd0efc656a6178f653c655", func := "splice/splicelaw22.ScanTops", spec := "scanTops", unfollowed := true, recurses := true, apart := false }
def ScanTopsSaid : Prop := scanTopsRow.holds Try.pinned (OpenSpec.ofChange scanTopsSpec)

/-- ITS FALSE NEIGHBOUR: 'it returns false'. Refute it at one input. -/
def scanTopsWrong : ChangeSpec := { name := "scanTops", fn := fun _ => fun
  | [d1, d2, d3] => { results := [.lit (.bool false)], args := [d1, d2, d3] }
  | _ => none }
def ScanTopsWrongFalsely : Prop := scanTopsRow.holds Try.pinned (OpenSpec.ofChange scanTopsWrong)

/-- 'splicelaw22.ScanBack': WHATEVER THE INPUT: true; the input reads as it did. -/
def scanBackSpec : ChangeSpec := { name := "scanBack", fn := fun _ => fun
  | [d1, d2] => { results := [.lit (.bool true)], args := [d1, d2] }
  | _ => none }
def scanBackRow : OpenClaim := { program := "ytcpcdinfagdlhaa", sum := "537e10696cbe8e40ec00ebbab3701ff2649dc31cc1fd0efc656a6178f653c655", func := "splice/splicelaw22.ScanBack", spec := "scanBack", inPlace := ["internal/abi.NoEscape"], unfollowed := true, recurses := true, apart := false }
def ScanBackSaid : Prop := scanBackRow.holds Try.pinned (OpenSpec.ofChange scanBackSpec)

/-- ITS FALSE NEIGHBOUR: 'it returns false'. Refute it at one input. -/
def scanBackWrong : ChangeSpec := { name := "scanBack", fn := fun _ => fun
  | [d1, d2] => { results := [.lit (.bool false)], args := [d1, d2] }
  | _ => none }
def ScanBackWrongFalsely : Prop := scanBackRow.holds Try.pinned (OpenSpec.ofChange scanBackWrong)

/- THE SECOND FORM. 'bulk': how many values and letters a reading holds, each counted each time it is reached (what is shared counts as often as it is met; a slice's spare places count too). A statement '..UptoSaid' is the law's where the arguments, and the package variables that the reading takes, are together of bulk at most 1048576: NARROWER than '..Said'. Prove '..Said' where nothing that the law and all that it calls make is longer than what came in: it says more and counts as full. Else prove '..UptoSaid'. A law counts once. -/
mutual
def uptoBulk {H : Type} : DataW H → Nat
  | .lit (.string bytes) => bytes.length + 1
  | .lit _ => 1
  | .nil => 1
  | .ptr d => uptoBulk d + 1
  | .slice elems spare => uptoBulkAll elems + uptoBulkAll spare + 1
  | .agg parts => uptoBulkAll parts + 1
  | .iface _ d => uptoBulk d + 1
  | .map entries => uptoBulkEntries entries + 1
  | .held _ => 1
def uptoBulkAll {H : Type} : List (DataW H) → Nat
  | [] => 0
  | d :: r => uptoBulk d + uptoBulkAll r
def uptoBulkEntries {H : Type} : List (Lit × DataW H) → Nat
  | [] => 0
  | x :: r => uptoBulkEntry x + uptoBulkEntries r
def uptoBulkEntry {H : Type} : Lit × DataW H → Nat
  | (.string bytes, d) => bytes.length + uptoBulk d + 1
  | (_, d) => uptoBulk d + 1
 end
def uptoSmall : (H : Type) → List (DataW H) → Bool := fun _ ds => decide (uptoBulkAll ds ≤ 1048576)
def OpenSpec.upto (s : _root_.Go.ChangeSpec) : _root_.Go.OpenSpec := { _root_.Go.OpenSpec.ofChange s with cond := some uptoSmall }

/-- 'splicelaw08.ChartOwners', WHERE WHAT IT READS IS OF BULK AT MOST 1048576: true; the input reads as it did. -/
def chartOwnersUptoRow : OpenClaim := { program := "ytcpcdinfagdlhaa", sum := "537e10696cbe8e40ec00ebbab3701ff2649dc31cc1fd0efc656a6178f653c655", func := "splice/splicelaw08.ChartOwners", spec := "chartOwners", unfollowed := true, recurses := true, apart := false, narrowed := true }
def ChartOwnersUptoSaid : Prop := chartOwnersUptoRow.holds Try.pinned (OpenSpec.upto chartOwnersSpec)

/-- 'splicelaw08.ChartApplies', WHERE WHAT IT READS IS OF BULK AT MOST 1048576: true; the input reads as it did. -/
def chartAppliesUptoRow : OpenClaim := { program := "ytcpcdinfagdlhaa", sum := "537e10696cbe8e40ec00ebbab3701ff2649dc31cc1fd0efc656a6178f653c655", func := "splice/splicelaw08.ChartApplies", spec := "chartApplies", unfollowed := true, recurses := true, apart := false, narrowed := true }
def ChartAppliesUptoSaid : Prop := chartAppliesUptoRow.holds Try.pinned (OpenSpec.upto chartAppliesSpec)

/-- 'splicelaw08.ChartReads', WHERE WHAT IT READS IS OF BULK AT MOST 1048576: true; the input reads as it did. -/
def chartReadsUptoRow : OpenClaim := { program := "ytcpcdinfagdlhaa", sum := "537e10696cbe8e40ec00ebbab3701ff2649dc31cc1fd0efc656a6178f653c655", func := "splice/splicelaw08.ChartReads", spec := "chartReads", inPlace := ["internal/abi.NoEscape"], unfollowed := true, recurses := true, apart := false, narrowed := true }
def ChartReadsUptoSaid : Prop := chartReadsUptoRow.holds Try.pinned (OpenSpec.upto chartReadsSpec)

/-- 'splicelaw08.ChartBack', WHERE WHAT IT READS IS OF BULK AT MOST 1048576: true; the input reads as it did. -/
def chartBackUptoRow : OpenClaim := { program := "ytcpcdinfagdlhaa", sum := "537e10696cbe8e40ec00ebbab3701ff2649dc31cc1fd0efc656a6178f653c655", func := "splice/splicelaw08.ChartBack", spec := "chartBack", inPlace := ["internal/abi.NoEscape"], unfollowed := true, recurses := true, apart := false, narrowed := true }
def ChartBackUptoSaid : Prop := chartBackUptoRow.holds Try.pinned (OpenSpec.upto chartBackSpec)

/-- 'splicelaw22.ScanAll', WHERE WHAT IT READS IS OF BULK AT MOST 1048576: true; the input reads as it did. -/
def scanAllUptoRow : OpenClaim := { program := "ytcpcdinfagdlhaa", sum := "537e10696cbe8e40ec00ebbab3701ff2649dc31cc1fd0efc656a6178f653c655", func := "splice/splicelaw22.ScanAll", spec := "scanAll", unfollowed := true, recurses := true, apart := false, narrowed := true }
def ScanAllUptoSaid : Prop := scanAllUptoRow.holds Try.pinned (OpenSpec.upto scanAllSpec)

/-- 'splicelaw22.ScanGroups', WHERE WHAT IT READS IS OF BULK AT MOST 1048576: true; the input reads as it did. -/
def scanGroupsUptoRow : OpenClaim := { program := "ytcpcdinfagdlhaa", sum := "537e10696cbe8e40ec00ebbab3701ff2649dc31cc1fd0efc656a6178f653c655", func := "splice/splicelaw22.ScanGroups", spec := "scanGroups", unfollowed := true, recurses := true, apart := false, narrowed := true }
def ScanGroupsUptoSaid : Prop := scanGroupsUptoRow.holds Try.pinned (OpenSpec.upto scanGroupsSpec)

/-- 'splicelaw22.ScanTops', WHERE WHAT IT READS IS OF BULK AT MOST 1048576: true; the input reads as it did. -/
def scanTopsUptoRow : OpenClaim := { program := "ytcpcdinfagdlhaa", sum := "537e10696cbe8e40ec00ebbab3701ff2649dc31cc1fd0efc656a6178f653c655", func := "splice/splicelaw22.ScanTops", spec := "scanTops", unfollowed := true, recurses := true, apart := false, narrowed := true }
def ScanTopsUptoSaid : Prop := scanTopsUptoRow.holds Try.pinned (OpenSpec.upto scanTopsSpec)

/-- 'splicelaw22.ScanBack', WHERE WHAT IT READS IS OF BULK AT MOST 1048576: true; the input reads as it did. -/
def scanBackUptoRow : OpenClaim := { program := "ytcpcdinfagdlhaa", sum := "537e10696cbe8e40ec00ebbab3701ff2649dc31cc1fd0efc656a6178f653c655", func := "splice/splicelaw22.ScanBack", spec := "scanBack", inPlace := ["internal/abi.NoEscape"], unfollowed := true, recurses := true, apart := false, narrowed := true }
def ScanBackUptoSaid : Prop := scanBackUptoRow.holds Try.pinned (OpenSpec.upto scanBackSpec)

end Rows
end Go.Proofs.Ytcpcdinfagdlhaa
