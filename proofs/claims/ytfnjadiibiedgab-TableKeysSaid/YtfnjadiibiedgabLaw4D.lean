/-
  MutChecks walked.
-/
import Derived.Test.YtfnjadiibiedgabMutK
namespace Go.Proofs.Ytfnjadiibiedgab
open Go.RowKit Go.Shelf Go.ChangeShapes Go.WideShapes Go.Deep

end Go.Proofs.Ytfnjadiibiedgab
