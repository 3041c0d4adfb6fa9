/-
  CONTRACT: slices.Concat of two rows of pairs.
-/
import Derived.Test.YtcpcdinfagdlhaaJn
namespace Go.Proofs.Ytcpcdinfagdlhaa
open Go.RowKit Go.Shelf

end Go.Proofs.Ytcpcdinfagdlhaa
