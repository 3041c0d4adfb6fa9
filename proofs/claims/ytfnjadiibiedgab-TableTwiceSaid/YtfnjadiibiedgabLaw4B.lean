/-
  MutOrder walked.
-/
import Derived.Test.YtfnjadiibiedgabLaw4A
namespace Go.Proofs.Ytfnjadiibiedgab
open Go.RowKit Go.Shelf Go.ChangeShapes Go.WideShapes Go.Deep

end Go.Proofs.Ytfnjadiibiedgab
