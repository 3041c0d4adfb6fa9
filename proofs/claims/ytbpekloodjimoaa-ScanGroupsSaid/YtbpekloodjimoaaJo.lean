/-
  CONTRACT: slices.Concat of two rows of pairs.
-/
import Derived.Test.YtbpekloodjimoaaJn
namespace Go.Proofs.Ytbpekloodjimoaa
open Go.RowKit Go.Shelf

end Go.Proofs.Ytbpekloodjimoaa
