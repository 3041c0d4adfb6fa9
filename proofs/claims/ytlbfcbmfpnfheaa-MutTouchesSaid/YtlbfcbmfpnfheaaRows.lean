/-
  No cell of these rows narrows 'for every input' (looked for: loops, veiled, ifaces, maps, wideKeys, modest, calm, conditions, laid).
  DERIVED. THE GIVEN ROWS OF THIS SEAT. 5 by the template 'for every input the law returns true; each argument reads behind the call as it read before'; 0 by the template 'total and deterministic' (their statements: YtlbfcbmfpnfheaaTotals.lean).
  GIVEN WITH THE SEED: the statements are not yours to turn. If you find one false, say at which input.
  Laid BY PROGRAM, IN A SANDBOX (cutbox-rows.mjs): the forced cells as the released guide's own fill.sh prints them over the translation f4c86354b0697d31… (all of the seat's roots in one cut). By AI agents, Wed Nov 11 2026. No macro, syntax, notation, axiom, sorry.
-/
import Derived.Test.YtlbfcbmfpnfheaaChecked
import GoSem.Claim
import GoSem.ClaimJoined
import GoSem.ClaimMapViews
import Derived.JoinedTies
import Derived.KernelRfl
namespace Go.Proofs.Ytlbfcbmfpnfheaa
/- THE CELL 'sum', in the pinned program and in every row, IS THE sha256 OF THE DUMP (.gsa) THAT YtlbfcbmfpnfheaaProg.lean LOADS. Nothing in Lean hashes anything: it is a label: what it is worth is what the hold of that sum in a sandbox is worth. -/
noncomputable def Try.pinned : Pinned := { name := "ytlbfcbmfpnfheaa", sum := "f4c86354b0697d31b5017498601066837a372b3f33bb85469d2530fc2acbf9a1", checked := Try.checked }
namespace Rows
def none {H : Type} : Left H := { results := [], args := [] }

/-- 'splicelaw04.MutTouches': WHATEVER THE INPUT: true; the input reads as it did. -/
def mutTouchesSpec : ChangeSpec := { name := "mutTouches", fn := fun _ => fun
  | [d1, d2] => { results := [.lit (.bool true)], args := [d1, d2] }
  | _ => none }
def mutTouchesRow : OpenClaim := { program := "ytlbfcbmfpnfheaa", sum := "f4c86354b0697d31b5017498601066837a372b3f33bb85469d2530fc2acbf9a1", func := "splice/splicelaw04.MutTouches", spec := "mutTouches", inPlace := ["internal/abi.NoEscape"], unfollowed := true, recurses := true, apart := false }
def MutTouchesSaid : Prop := mutTouchesRow.holds Try.pinned (OpenSpec.ofChange mutTouchesSpec)

/-- ITS FALSE NEIGHBOUR: 'it returns false'. Refute it at one input. -/
def mutTouchesWrong : ChangeSpec := { name := "mutTouches", fn := fun _ => fun
  | [d1, d2] => { results := [.lit (.bool false)], args := [d1, d2] }
  | _ => none }
def MutTouchesWrongFalsely : Prop := mutTouchesRow.holds Try.pinned (OpenSpec.ofChange mutTouchesWrong)

/-- 'splicelaw04.MutNear': WHATEVER THE INPUT: true; the input reads as it did. -/
def mutNearSpec : ChangeSpec := { name := "mutNear", fn := fun _ => fun
  | [d1, d2, d3] => { results := [.lit (.bool true)], args := [d1, d2, d3] }
  | _ => none }
def mutNearRow : OpenClaim := { program := "ytlbfcbmfpnfheaa", sum := "f4c86354b0697d31b5017498601066837a372b3f33bb85469d2530fc2acbf9a1", func := "splice/splicelaw04.MutNear", spec := "mutNear", inPlace := ["internal/abi.NoEscape"], unfollowed := true, recurses := true, apart := false }
def MutNearSaid : Prop := mutNearRow.holds Try.pinned (OpenSpec.ofChange mutNearSpec)

/-- ITS FALSE NEIGHBOUR: 'it returns false'. Refute it at one input. -/
def mutNearWrong : ChangeSpec := { name := "mutNear", fn := fun _ => fun
  | [d1, d2, d3] => { results := [.lit (.bool false)], args := [d1, d2, d3] }
  | _ => none }
def MutNearWrongFalsely : Prop := mutNearRow.holds Try.pinned (OpenSpec.ofChange mutNearWrong)

/-- 'splicelaw05.TableApplies': WHATEVER THE INPUT: true; the input reads as it did. -/
def tableAppliesSpec : ChangeSpec := { name := "tableApplies", fn := fun _ => fun
  | [d1, d2, d3] => { results := [.lit (.bool true)], args := [d1, d2, d3] }
  | _ => none }
def tableAppliesRow : OpenClaim := { program := "ytlbfcbmfpnfheaa", sum := "f4c86354b0697d31b5017498601066837a372b3f33bb85469d2530fc2acbf9a1", func := "splice/splicelaw05.TableApplies", spec := "tableApplies", inPlace := ["slices.overlaps[splice/api.Pair]"], unfollowed := true, recurses := true, apart := false }
def TableAppliesSaid : Prop := tableAppliesRow.holds Try.pinned (OpenSpec.ofChange tableAppliesSpec)

/-- ITS FALSE NEIGHBOUR: 'it returns false'. Refute it at one input. -/
def tableAppliesWrong : ChangeSpec := { name := "tableApplies", fn := fun _ => fun
  | [d1, d2, d3] => { results := [.lit (.bool false)], args := [d1, d2, d3] }
  | _ => none }
def TableAppliesWrongFalsely : Prop := tableAppliesRow.holds Try.pinned (OpenSpec.ofChange tableAppliesWrong)

/-- 'splicelaw05.TableClips': WHATEVER THE INPUT: true; the input reads as it did. -/
def tableClipsSpec : ChangeSpec := { name := "tableClips", fn := fun _ => fun
  | [d1, d2, d3] => { results := [.lit (.bool true)], args := [d1, d2, d3] }
  | _ => none }
def tableClipsRow : OpenClaim := { program := "ytlbfcbmfpnfheaa", sum := "f4c86354b0697d31b5017498601066837a372b3f33bb85469d2530fc2acbf9a1", func := "splice/splicelaw05.TableClips", spec := "tableClips", inPlace := ["slices.overlaps[splice/api.Pair]"], unfollowed := true, recurses := true, apart := false }
def TableClipsSaid : Prop := tableClipsRow.holds Try.pinned (OpenSpec.ofChange tableClipsSpec)

/-- ITS FALSE NEIGHBOUR: 'it returns false'. Refute it at one input. -/
def tableClipsWrong : ChangeSpec := { name := "tableClips", fn := fun _ => fun
  | [d1, d2, d3] => { results := [.lit (.bool false)], args := [d1, d2, d3] }
  | _ => none }
def TableClipsWrongFalsely : Prop := tableClipsRow.holds Try.pinned (OpenSpec.ofChange tableClipsWrong)

/-- 'splicelaw05.TableParts': WHATEVER THE INPUT: true; the input reads as it did. -/
def tablePartsSpec : ChangeSpec := { name := "tableParts", fn := fun _ => fun
  | [d1, d2, d3] => { results := [.lit (.bool true)], args := [d1, d2, d3] }
  | _ => none }
def tablePartsRow : OpenClaim := { program := "ytlbfcbmfpnfheaa", sum := "f4c86354b0697d31b5017498601066837a372b3f33bb85469d2530fc2acbf9a1", func := "splice/splicelaw05.TableParts", spec := "tableParts", inPlace := ["slices.overlaps[splice/api.Pair]"], unfollowed := true, recurses := true, apart := false }
def TablePartsSaid : Prop := tablePartsRow.holds Try.pinned (OpenSpec.ofChange tablePartsSpec)

/-- ITS FALSE NEIGHBOUR: 'it returns false'. Refute it at one input. -/
def tablePartsWrong : ChangeSpec := { name := "tableParts", fn := fun _ => fun
  | [d1, d2, d3] => { results := [.lit (.bool false)], args := [d1, d2, d3] }
  | _ => none }
def TablePartsWrongFalsely : Prop := tablePartsRow.holds Try.pinned (OpenSpec.ofChange tablePartsWrong)

/- THE SECOND FORM. 'bulk': how many values and letters a reading holds, each counted each time it is reached (what is shared counts as often as it is met; a slice's spare places count too). A statement '..UptoSaid' is the law's where the arguments, and the package variables that the reading takes, are together of bulk at most 1048576: NARROWER than '..Said'. Prove '..Said' where nothing that the law and all that it calls make is longer than what came in: it says more and counts as full. Else prove '..UptoSaid'. A law counts once. -/
mutual
def uptoBulk {H : Type} : DataW H → Nat
  | .lit (.string bytes) => bytes.length + 1
  | .lit _ => 1
  | .nil => 1
  | .ptr d => uptoBulk d + 1
  | .slice elems spare => uptoBulkAll elems + uptoBulkAll spare + 1
  | .agg parts => uptoBulkAll parts + 1
  | .iface _ d => uptoBulk d + 1
  | .map entries => uptoBulkEntries entries + 1
  | .held _ => 1
def uptoBulkAll {H : Type} : List (DataW H) → Nat
  | [] => 0
  | d :: r => uptoBulk d + uptoBulkAll r
def uptoBulkEntries {H : Type} : List (Lit × DataW H) → Nat
  | [] => 0
  | x :: r => uptoBulkEntry x + uptoBulkEntries r
def uptoBulkEntry {H : Type} : Lit × DataW H → Nat
  | (.string bytes, d) => bytes.length + uptoBulk d + 1
  | (_, d) => uptoBulk d + 1
 end
def uptoSmall : (H : Type) → List (DataW H) → Bool := fun _ ds => decide (uptoBulkAll ds ≤ 1048576)
def OpenSpec.upto (s : _root_.Go.ChangeSpec) : _root_.Go.OpenSpec := { _root_.Go.OpenSpec.ofChange s with cond := some uptoSmall }

/-- 'splicelaw04.MutTouches', WHERE WHAT IT READS IS OF BULK AT MOST 1048576: true; the input reads as it did. -/
def mutTouchesUptoRow : OpenClaim := { program := "ytlbfcbmfpnfheaa", sum := "f4c86354b0697d31b5017498601066837a372b3f33bb85469d2530fc2acbf9a1", func := "splice/splicelaw04.MutTouches", spec := "mutTouches", inPlace := ["internal/abi.NoEscape"], unfollowed := true, recurses := true, apart := false, narrowed := true }
def MutTouchesUptoSaid : Prop := mutTouchesUptoRow.holds Try.pinned (OpenSpec.upto mutTouchesSpec)

/-- 'splicelaw04.MutNear', WHERE WHAT IT READS IS OF BULK AT MOST 1048576: true; the input reads as it did. -/
def mutNearUptoRow : OpenClaim := { program := "ytlbfcbmfpnfheaa", sum := "f4c86354b0697d31b5017498601066837a372b3f33bb85469d2530fc2acbf9a1", func := "splice/splicelaw04.MutNear", spec := "mutNear", inPlace := ["internal/abi.NoEscape"], unfollowed := true, recurses := true, apart := false, narrowed := true }
def MutNearUptoSaid : Prop := mutNearUptoRow.holds Try.pinned (OpenSpec.upto mutNearSpec)

/-- 'splicelaw05.TableApplies', WHERE WHAT IT READS IS OF BULK AT MOST 1048576: true; the input reads as it did. -/
def tableAppliesUptoRow : OpenClaim := { program := "ytlbfcbmfpnfheaa", sum := "f4c86354b0697d31b5017498601066837a372b3f33bb85469d2530fc2acbf9a1", func := "splice/splicelaw05.TableApplies", spec := "tableApplies", inPlace := ["slices.overlaps[splice/api.Pair]"], unfollowed := true, recurses := true, apart := false, narrowed := true }
def TableAppliesUptoSaid : Prop := tableAppliesUptoRow.holds Try.pinned (OpenSpec.upto tableAppliesSpec)

/-- 'splicelaw05.TableClips', WHERE WHAT IT READS IS OF BULK AT MOST 1048576: true; the input reads as it did. -/
def tableClipsUptoRow : OpenClaim := { program := "ytlbfcbmfpnfheaa", sum := "f4c86354b0697d31b5017498601066837a372b3f33bb85469d2530fc2acbf9a1", func := "splice/splicelaw05.TableClips", spec := "tableClips", inPlace := ["slices.overlaps[splice/api.Pair]"], unfollowed := true, recurses := true, apart := false, narrowed := true }
def TableClipsUptoSaid : Prop := tableClipsUptoRow.holds Try.pinned (OpenSpec.upto tableClipsSpec)

/-- 'splicelaw05.TableParts', WHERE WHAT IT READS IS OF BULK AT MOST 1048576: true; the input reads as it did. -/
def tablePartsUptoRow : OpenClaim := { program := "ytlbfcbmfpnfheaa", sum := "f4c86354b0697d31b5017498601066837a372b3f33bb85469d2530fc2acbf9a1", func := "splice/splicelaw05.TableParts", spec := "tableParts", inPlace := ["slices.overlaps[splice/api.Pair]"], unfollowed := true, recurses := true, apart := false, narrowed := true }
def TablePartsUptoSaid : Prop := tablePartsUptoRow.holds Try.pinned (OpenSpec.upto tablePartsSpec)

end Rows
end Go.Proofs.Ytlbfcbmfpnfheaa
