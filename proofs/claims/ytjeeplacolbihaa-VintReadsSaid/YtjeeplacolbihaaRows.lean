/-
  No cell of these rows narrows 'for every input' (looked for: loops, veiled, ifaces, maps, wideKeys, modest, calm, conditions, laid).
  DERIVED. THE GIVEN ROWS OF THIS SEAT. 12 by the template 'for every input the law returns true; each argument reads behind the call as it read before'; 0 by the template 'total and deterministic' (their statements: YtjeeplacolbihaaTotals.lean).
  GIVEN WITH THE SEED: the statements are not yours to turn. If you find one false, say at which input.
  Laid BY PROGRAM, IN A SANDBOX (cutbox-rows.mjs): the forced cells as the released guide's own fill.sh prints them over the translation a0529d884080aa44… (all of the seat's roots in one cut). By AI agents, Wed Nov 11 2026. No macro, syntax, notation, axiom, sorry.
-/
import Derived.Test.YtjeeplacolbihaaChecked
import GoSem.Claim
import GoSem.ClaimJoined
import GoSem.ClaimMapViews
import Derived.JoinedTies
import Derived.KernelRfl
namespace Go.Proofs.Ytjeeplacolbihaa
/- THE CELL 'sum', in the pinned program and in every row, IS THE sha256 OF THE DUMP (.gsa) THAT YtjeeplacolbihaaProg.lean LOADS. Nothing in Lean hashes anything: it is a label: what it is worth is what the hold of that sum in a sandbox is worth. -/
noncomputable def Try.pinned : Pinned := { name := "ytjeeplacolbihaa", sum := "a0529d884080aa44795191dfda65305caf9692332f01757f4a238ae9cadf1a4d", checked := Try.checked }
namespace Rows
def none {H : Type} : Left H := { results := [], args := [] }

/-- 'splicelaw01.VintNums': WHATEVER THE INPUT: true; the input reads as it did. -/
def vintNumsSpec : ChangeSpec := { name := "vintNums", fn := fun _ => fun
  | [d1, d2, d3] => { results := [.lit (.bool true)], args := [d1, d2, d3] }
  | _ => none }
def vintNumsRow : OpenClaim := { program := "ytjeeplacolbihaa", sum := "a0529d884080aa44795191dfda65305caf9692332f01757f4a238ae9cadf1a4d", func := "splice/splicelaw01.VintNums", spec := "vintNums", apart := false }
def VintNumsSaid : Prop := vintNumsRow.holds Try.pinned (OpenSpec.ofChange vintNumsSpec)

/-- ITS FALSE NEIGHBOUR: 'it returns false'. Refute it at one input. -/
def vintNumsWrong : ChangeSpec := { name := "vintNums", fn := fun _ => fun
  | [d1, d2, d3] => { results := [.lit (.bool false)], args := [d1, d2, d3] }
  | _ => none }
def VintNumsWrongFalsely : Prop := vintNumsRow.holds Try.pinned (OpenSpec.ofChange vintNumsWrong)

/-- 'splicelaw01.VintTexts': WHATEVER THE INPUT: true; the input reads as it did. -/
def vintTextsSpec : ChangeSpec := { name := "vintTexts", fn := fun _ => fun
  | [d1, d2] => { results := [.lit (.bool true)], args := [d1, d2] }
  | _ => none }
def vintTextsRow : OpenClaim := { program := "ytjeeplacolbihaa", sum := "a0529d884080aa44795191dfda65305caf9692332f01757f4a238ae9cadf1a4d", func := "splice/splicelaw01.VintTexts", spec := "vintTexts", apart := false }
def VintTextsSaid : Prop := vintTextsRow.holds Try.pinned (OpenSpec.ofChange vintTextsSpec)

/-- ITS FALSE NEIGHBOUR: 'it returns false'. Refute it at one input. -/
def vintTextsWrong : ChangeSpec := { name := "vintTexts", fn := fun _ => fun
  | [d1, d2] => { results := [.lit (.bool false)], args := [d1, d2] }
  | _ => none }
def VintTextsWrongFalsely : Prop := vintTextsRow.holds Try.pinned (OpenSpec.ofChange vintTextsWrong)

/-- 'splicelaw01.VintReads': WHATEVER THE INPUT: true; the input reads as it did. -/
def vintReadsSpec : ChangeSpec := { name := "vintReads", fn := fun _ => fun
  | [d1, d2] => { results := [.lit (.bool true)], args := [d1, d2] }
  | _ => none }
def vintReadsRow : OpenClaim := { program := "ytjeeplacolbihaa", sum := "a0529d884080aa44795191dfda65305caf9692332f01757f4a238ae9cadf1a4d", func := "splice/splicelaw01.VintReads", spec := "vintReads", apart := false }
def VintReadsSaid : Prop := vintReadsRow.holds Try.pinned (OpenSpec.ofChange vintReadsSpec)

/-- ITS FALSE NEIGHBOUR: 'it returns false'. Refute it at one input. -/
def vintReadsWrong : ChangeSpec := { name := "vintReads", fn := fun _ => fun
  | [d1, d2] => { results := [.lit (.bool false)], args := [d1, d2] }
  | _ => none }
def VintReadsWrongFalsely : Prop := vintReadsRow.holds Try.pinned (OpenSpec.ofChange vintReadsWrong)

/-- 'splicelaw01.VintBack': WHATEVER THE INPUT: true; the input reads as it did. -/
def vintBackSpec : ChangeSpec := { name := "vintBack", fn := fun _ => fun
  | [d1, d2, d3] => { results := [.lit (.bool true)], args := [d1, d2, d3] }
  | _ => none }
def vintBackRow : OpenClaim := { program := "ytjeeplacolbihaa", sum := "a0529d884080aa44795191dfda65305caf9692332f01757f4a238ae9cadf1a4d", func := "splice/splicelaw01.VintBack", spec := "vintBack", apart := false }
def VintBackSaid : Prop := vintBackRow.holds Try.pinned (OpenSpec.ofChange vintBackSpec)

/-- ITS FALSE NEIGHBOUR: 'it returns false'. Refute it at one input. -/
def vintBackWrong : ChangeSpec := { name := "vintBack", fn := fun _ => fun
  | [d1, d2, d3] => { results := [.lit (.bool false)], args := [d1, d2, d3] }
  | _ => none }
def VintBackWrongFalsely : Prop := vintBackRow.holds Try.pinned (OpenSpec.ofChange vintBackWrong)

/-- 'splicelaw01.VintOnce': WHATEVER THE INPUT: true; the input reads as it did. -/
def vintOnceSpec : ChangeSpec := { name := "vintOnce", fn := fun _ => fun
  | [d] => { results := [.lit (.bool true)], args := [d] }
  | _ => none }
def vintOnceRow : OpenClaim := { program := "ytjeeplacolbihaa", sum := "a0529d884080aa44795191dfda65305caf9692332f01757f4a238ae9cadf1a4d", func := "splice/splicelaw01.VintOnce", spec := "vintOnce", apart := false }
def VintOnceSaid : Prop := vintOnceRow.holds Try.pinned (OpenSpec.ofChange vintOnceSpec)

/-- ITS FALSE NEIGHBOUR: 'it returns false'. Refute it at one input. -/
def vintOnceWrong : ChangeSpec := { name := "vintOnce", fn := fun _ => fun
  | [d] => { results := [.lit (.bool false)], args := [d] }
  | _ => none }
def VintOnceWrongFalsely : Prop := vintOnceRow.holds Try.pinned (OpenSpec.ofChange vintOnceWrong)

/-- 'splicelaw01.VintRises': WHATEVER THE INPUT: true; the input reads as it did. -/
def vintRisesSpec : ChangeSpec := { name := "vintRises", fn := fun _ => fun
  | [d1, d2] => { results := [.lit (.bool true)], args := [d1, d2] }
  | _ => none }
def vintRisesRow : OpenClaim := { program := "ytjeeplacolbihaa", sum := "a0529d884080aa44795191dfda65305caf9692332f01757f4a238ae9cadf1a4d", func := "splice/splicelaw01.VintRises", spec := "vintRises", apart := false }
def VintRisesSaid : Prop := vintRisesRow.holds Try.pinned (OpenSpec.ofChange vintRisesSpec)

/-- ITS FALSE NEIGHBOUR: 'it returns false'. Refute it at one input. -/
def vintRisesWrong : ChangeSpec := { name := "vintRises", fn := fun _ => fun
  | [d1, d2] => { results := [.lit (.bool false)], args := [d1, d2] }
  | _ => none }
def VintRisesWrongFalsely : Prop := vintRisesRow.holds Try.pinned (OpenSpec.ofChange vintRisesWrong)

/-- 'splicelaw01.VintCut': WHATEVER THE INPUT: true; the input reads as it did. -/
def vintCutSpec : ChangeSpec := { name := "vintCut", fn := fun _ => fun
  | [d1, d2, d3] => { results := [.lit (.bool true)], args := [d1, d2, d3] }
  | _ => none }
def vintCutRow : OpenClaim := { program := "ytjeeplacolbihaa", sum := "a0529d884080aa44795191dfda65305caf9692332f01757f4a238ae9cadf1a4d", func := "splice/splicelaw01.VintCut", spec := "vintCut", apart := false }
def VintCutSaid : Prop := vintCutRow.holds Try.pinned (OpenSpec.ofChange vintCutSpec)

/-- ITS FALSE NEIGHBOUR: 'it returns false'. Refute it at one input. -/
def vintCutWrong : ChangeSpec := { name := "vintCut", fn := fun _ => fun
  | [d1, d2, d3] => { results := [.lit (.bool false)], args := [d1, d2, d3] }
  | _ => none }
def VintCutWrongFalsely : Prop := vintCutRow.holds Try.pinned (OpenSpec.ofChange vintCutWrong)

/-- 'splicelaw01.VintFirst': WHATEVER THE INPUT: true; the input reads as it did. -/
def vintFirstSpec : ChangeSpec := { name := "vintFirst", fn := fun _ => fun
  | [d1, d2] => { results := [.lit (.bool true)], args := [d1, d2] }
  | _ => none }
def vintFirstRow : OpenClaim := { program := "ytjeeplacolbihaa", sum := "a0529d884080aa44795191dfda65305caf9692332f01757f4a238ae9cadf1a4d", func := "splice/splicelaw01.VintFirst", spec := "vintFirst", apart := false }
def VintFirstSaid : Prop := vintFirstRow.holds Try.pinned (OpenSpec.ofChange vintFirstSpec)

/-- ITS FALSE NEIGHBOUR: 'it returns false'. Refute it at one input. -/
def vintFirstWrong : ChangeSpec := { name := "vintFirst", fn := fun _ => fun
  | [d1, d2] => { results := [.lit (.bool false)], args := [d1, d2] }
  | _ => none }
def VintFirstWrongFalsely : Prop := vintFirstRow.holds Try.pinned (OpenSpec.ofChange vintFirstWrong)

/-- 'splicelaw01.VintFolds': WHATEVER THE INPUT: true; the input reads as it did. -/
def vintFoldsSpec : ChangeSpec := { name := "vintFolds", fn := fun _ => fun
  | [d1, d2] => { results := [.lit (.bool true)], args := [d1, d2] }
  | _ => none }
def vintFoldsRow : OpenClaim := { program := "ytjeeplacolbihaa", sum := "a0529d884080aa44795191dfda65305caf9692332f01757f4a238ae9cadf1a4d", func := "splice/splicelaw01.VintFolds", spec := "vintFolds", apart := false }
def VintFoldsSaid : Prop := vintFoldsRow.holds Try.pinned (OpenSpec.ofChange vintFoldsSpec)

/-- ITS FALSE NEIGHBOUR: 'it returns false'. Refute it at one input. -/
def vintFoldsWrong : ChangeSpec := { name := "vintFolds", fn := fun _ => fun
  | [d1, d2] => { results := [.lit (.bool false)], args := [d1, d2] }
  | _ => none }
def VintFoldsWrongFalsely : Prop := vintFoldsRow.holds Try.pinned (OpenSpec.ofChange vintFoldsWrong)

/-- 'splicelaw01.VintRows': WHATEVER THE INPUT: true; the input reads as it did. -/
def vintRowsSpec : ChangeSpec := { name := "vintRows", fn := fun _ => fun
  | [d] => { results := [.lit (.bool true)], args := [d] }
  | _ => none }
def vintRowsRow : OpenClaim := { program := "ytjeeplacolbihaa", sum := "a0529d884080aa44795191dfda65305caf9692332f01757f4a238ae9cadf1a4d", func := "splice/splicelaw01.VintRows", spec := "vintRows", apart := false }
def VintRowsSaid : Prop := vintRowsRow.holds Try.pinned (OpenSpec.ofChange vintRowsSpec)

/-- ITS FALSE NEIGHBOUR: 'it returns false'. Refute it at one input. -/
def vintRowsWrong : ChangeSpec := { name := "vintRows", fn := fun _ => fun
  | [d] => { results := [.lit (.bool false)], args := [d] }
  | _ => none }
def VintRowsWrongFalsely : Prop := vintRowsRow.holds Try.pinned (OpenSpec.ofChange vintRowsWrong)

/-- 'splicelaw02.CksumSums': WHATEVER THE INPUT: true; the input reads as it did. -/
def cksumSumsSpec : ChangeSpec := { name := "cksumSums", fn := fun _ => fun
  | [d] => { results := [.lit (.bool true)], args := [d] }
  | _ => none }
def cksumSumsRow : OpenClaim := { program := "ytjeeplacolbihaa", sum := "a0529d884080aa44795191dfda65305caf9692332f01757f4a238ae9cadf1a4d", func := "splice/splicelaw02.CksumSums", spec := "cksumSums", apart := false }
def CksumSumsSaid : Prop := cksumSumsRow.holds Try.pinned (OpenSpec.ofChange cksumSumsSpec)

/-- ITS FALSE NEIGHBOUR: 'it returns false'. Refute it at one input. -/
def cksumSumsWrong : ChangeSpec := { name := "cksumSums", fn := fun _ => fun
  | [d] => { results := [.lit (.bool false)], args := [d] }
  | _ => none }
def CksumSumsWrongFalsely : Prop := cksumSumsRow.holds Try.pinned (OpenSpec.ofChange cksumSumsWrong)

/-- 'splicelaw02.CksumFrames': WHATEVER THE INPUT: true; the input reads as it did. -/
def cksumFramesSpec : ChangeSpec := { name := "cksumFrames", fn := fun _ => fun
  | [d] => { results := [.lit (.bool true)], args := [d] }
  | _ => none }
def cksumFramesRow : OpenClaim := { program := "ytjeeplacolbihaa", sum := "a0529d884080aa44795191dfda65305caf9692332f01757f4a238ae9cadf1a4d", func := "splice/splicelaw02.CksumFrames", spec := "cksumFrames", apart := false }
def CksumFramesSaid : Prop := cksumFramesRow.holds Try.pinned (OpenSpec.ofChange cksumFramesSpec)

/-- ITS FALSE NEIGHBOUR: 'it returns false'. Refute it at one input. -/
def cksumFramesWrong : ChangeSpec := { name := "cksumFrames", fn := fun _ => fun
  | [d] => { results := [.lit (.bool false)], args := [d] }
  | _ => none }
def CksumFramesWrongFalsely : Prop := cksumFramesRow.holds Try.pinned (OpenSpec.ofChange cksumFramesWrong)

/- THE SECOND FORM. 'bulk': how many values and letters a reading holds, each counted each time it is reached (what is shared counts as often as it is met; a slice's spare places count too). A statement '..UptoSaid' is the law's where the arguments, and the package variables that the reading takes, are together of bulk at most 1048576: NARROWER than '..Said'. Prove '..Said' where nothing that the law and all that it calls make is longer than what came in: it says more and counts as full. Else prove '..UptoSaid'. A law counts once. -/
mutual
def uptoBulk {H : Type} : DataW H → Nat
  | .lit (.string bytes) => bytes.length + 1
  | .lit _ => 1
  | .nil => 1
  | .ptr d => uptoBulk d + 1
  | .slice elems spare => uptoBulkAll elems + uptoBulkAll spare + 1
  | .agg parts => uptoBulkAll parts + 1
  | .iface _ d => uptoBulk d + 1
  | .map entries => uptoBulkEntries entries + 1
  | .held _ => 1
def uptoBulkAll {H : Type} : List (DataW H) → Nat
  | [] => 0
  | d :: r => uptoBulk d + uptoBulkAll r
def uptoBulkEntries {H : Type} : List (Lit × DataW H) → Nat
  | [] => 0
  | x :: r => uptoBulkEntry x + uptoBulkEntries r
def uptoBulkEntry {H : Type} : Lit × DataW H → Nat
  | (.string bytes, d) => bytes.length + uptoBulk d + 1
  | (_, d) => uptoBulk d + 1
 end
def uptoSmall : (H : Type) → List (DataW H) → Bool := fun _ ds => decide (uptoBulkAll ds ≤ 1048576)
def OpenSpec.upto (s : _root_.Go.ChangeSpec) : _root_.Go.OpenSpec := { _root_.Go.OpenSpec.ofChange s with cond := some uptoSmall }

/-- 'splicelaw01.VintNums', WHERE WHAT IT READS IS OF BULK AT MOST 1048576: true; the input reads as it did. -/
def vintNumsUptoRow : OpenClaim := { program := "ytjeeplacolbihaa", sum := "a0529d884080aa44795191dfda65305caf9692332f01757f4a238ae9cadf1a4d", func := "splice/splicelaw01.VintNums", spec := "vintNums", apart := false, narrowed := true }
def VintNumsUptoSaid : Prop := vintNumsUptoRow.holds Try.pinned (OpenSpec.upto vintNumsSpec)

/-- 'splicelaw01.VintTexts', WHERE WHAT IT READS IS OF BULK AT MOST 1048576: true; the input reads as it did. -/
def vintTextsUptoRow : OpenClaim := { program := "ytjeeplacolbihaa", sum := "a0529d884080aa44795191dfda65305caf9692332f01757f4a238ae9cadf1a4d", func := "splice/splicelaw01.VintTexts", spec := "vintTexts", apart := false, narrowed := true }
def VintTextsUptoSaid : Prop := vintTextsUptoRow.holds Try.pinned (OpenSpec.upto vintTextsSpec)

/-- 'splicelaw01.VintReads', WHERE WHAT IT READS IS OF BULK AT MOST 1048576: true; the input reads as it did. -/
def vintReadsUptoRow : OpenClaim := { program := "ytjeeplacolbihaa", sum := "a0529d884080aa44795191dfda65305caf9692332f01757f4a238ae9cadf1a4d", func := "splice/splicelaw01.VintReads", spec := "vintReads", apart := false, narrowed := true }
def VintReadsUptoSaid : Prop := vintReadsUptoRow.holds Try.pinned (OpenSpec.upto vintReadsSpec)

/-- 'splicelaw01.VintBack', WHERE WHAT IT READS IS OF BULK AT MOST 1048576: true; the input reads as it did. -/
def vintBackUptoRow : OpenClaim := { program := "ytjeeplacolbihaa", sum := "a0529d884080aa44795191dfda65305caf9692332f01757f4a238ae9cadf1a4d", func := "splice/splicelaw01.VintBack", spec := "vintBack", apart := false, narrowed := true }
def VintBackUptoSaid : Prop := vintBackUptoRow.holds Try.pinned (OpenSpec.upto vintBackSpec)

/-- 'splicelaw01.VintOnce', WHERE WHAT IT READS IS OF BULK AT MOST 1048576: true; the input reads as it did. -/
def vintOnceUptoRow : OpenClaim := { program := "ytjeeplacolbihaa", sum := "a0529d884080aa44795191dfda65305caf9692332f01757f4a238ae9cadf1a4d", func := "splice/splicelaw01.VintOnce", spec := "vintOnce", apart := false, narrowed := true }
def VintOnceUptoSaid : Prop := vintOnceUptoRow.holds Try.pinned (OpenSpec.upto vintOnceSpec)

/-- 'splicelaw01.VintRises', WHERE WHAT IT READS IS OF BULK AT MOST 1048576: true; the input reads as it did. -/
def vintRisesUptoRow : OpenClaim := { program := "ytjeeplacolbihaa", sum := "a0529d884080aa44795191dfda65305caf9692332f01757f4a238ae9cadf1a4d", func := "splice/splicelaw01.VintRises", spec := "vintRises", apart := false, narrowed := true }
def VintRisesUptoSaid : Prop := vintRisesUptoRow.holds Try.pinned (OpenSpec.upto vintRisesSpec)

/-- 'splicelaw01.VintCut', WHERE WHAT IT READS IS OF BULK AT MOST 1048576: true; the input reads as it did. -/
def vintCutUptoRow : OpenClaim := { program := "ytjeeplacolbihaa", sum := "a0529d884080aa44795191dfda65305caf9692332f01757f4a238ae9cadf1a4d", func := "splice/splicelaw01.VintCut", spec := "vintCut", apart := false, narrowed := true }
def VintCutUptoSaid : Prop := vintCutUptoRow.holds Try.pinned (OpenSpec.upto vintCutSpec)

/-- 'splicelaw01.VintFirst', WHERE WHAT IT READS IS OF BULK AT MOST 1048576: true; the input reads as it did. -/
def vintFirstUptoRow : OpenClaim := { program := "ytjeeplacolbihaa", sum := "a0529d884080aa44795191dfda65305caf9692332f01757f4a238ae9cadf1a4d", func := "splice/splicelaw01.VintFirst", spec := "vintFirst", apart := false, narrowed := true }
def VintFirstUptoSaid : Prop := vintFirstUptoRow.holds Try.pinned (OpenSpec.upto vintFirstSpec)

/-- 'splicelaw01.VintFolds', WHERE WHAT IT READS IS OF BULK AT MOST 1048576: true; the input reads as it did. -/
def vintFoldsUptoRow : OpenClaim := { program := "ytjeeplacolbihaa", sum := "a0529d884080aa44795191dfda65305caf9692332f01757f4a238ae9cadf1a4d", func := "splice/splicelaw01.VintFolds", spec := "vintFolds", apart := false, narrowed := true }
def VintFoldsUptoSaid : Prop := vintFoldsUptoRow.holds Try.pinned (OpenSpec.upto vintFoldsSpec)

/-- 'splicelaw01.VintRows', WHERE WHAT IT READS IS OF BULK AT MOST 1048576: true; the input reads as it did. -/
def vintRowsUptoRow : OpenClaim := { program := "ytjeeplacolbihaa", sum := "a0529d884080aa44795191dfda65305caf9692332f01757f4a238ae9cadf1a4d", func := "splice/splicelaw01.VintRows", spec := "vintRows", apart := false, narrowed := true }
def VintRowsUptoSaid : Prop := vintRowsUptoRow.holds Try.pinned (OpenSpec.upto vintRowsSpec)

/-- 'splicelaw02.CksumSums', WHERE WHAT IT READS IS OF BULK AT MOST 1048576: true; the input reads as it did. -/
def cksumSumsUptoRow : OpenClaim := { program := "ytjeeplacolbihaa", sum := "a0529d884080aa44795191dfda65305caf9692332f01757f4a238ae9cadf1a4d", func := "splice/splicelaw02.CksumSums", spec := "cksumSums", apart := false, narrowed := true }
def CksumSumsUptoSaid : Prop := cksumSumsUptoRow.holds Try.pinned (OpenSpec.upto cksumSumsSpec)

/-- 'splicelaw02.CksumFrames', WHERE WHAT IT READS IS OF BULK AT MOST 1048576: true; the input reads as it did. -/
def cksumFramesUptoRow : OpenClaim := { program := "ytjeeplacolbihaa", sum := "a0529d884080aa44795191dfda65305caf9692332f01757f4a238ae9cadf1a4d", func := "splice/splicelaw02.CksumFrames", spec := "cksumFrames", apart := false, narrowed := true }
def CksumFramesUptoSaid : Prop := cksumFramesUptoRow.holds Try.pinned (OpenSpec.upto cksumFramesSpec)

end Rows
end Go.Proofs.Ytjeeplacolbihaa
