/-
  CONTRACT: slices.Concat of two rows of pairs.
-/
import Derived.Test.YthcideijpmbpnaaJn
namespace Go.Proofs.Ythcideijpmbpnaa
open Go.RowKit Go.Shelf

end Go.Proofs.Ythcideijpmbpnaa
