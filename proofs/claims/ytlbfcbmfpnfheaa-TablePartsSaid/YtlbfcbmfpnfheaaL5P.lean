/-
  TableParts walked.
-/
import Derived.Test.YtlbfcbmfpnfheaaJt
import Derived.Deep.RegionHeld3
namespace Go.Proofs.Ytlbfcbmfpnfheaa
open Go.RowKit Go.Shelf Go.ChangeShapes Go.WideShapes Go.Deep

theorem few_len5P {n n2 n3 : Nat} {l ps on : List Sp} (h : fewB n n2 n3 = true) (h1 : n = l.length) (h2 : n2 = ps.length) (h3 : n3 = on.length) : l.length ≤ 100000 ∧ ps.length ≤ 100000 ∧ on.length ≤ 100000 := by
  unfold fewB at h
  simp at h
  omega
end Go.Proofs.Ytlbfcbmfpnfheaa
