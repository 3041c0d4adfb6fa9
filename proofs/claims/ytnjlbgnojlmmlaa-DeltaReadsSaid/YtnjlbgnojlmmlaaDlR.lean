/-
  DELTA: the document's Between (written by wip/tools/mkDlR.py).
-/
import Derived.Test.YtnjlbgnojlmmlaaDlY
namespace Go.Proofs.Ytnjlbgnojlmmlaa
open Go.RowKit Go.Deep Go.Shelf

def RBPost (w : World) (l : List Tn) (z : Int) (e : Ending) (w' : World) : Prop := ∃ a n c, e = .returned (.tuple #[.slice a n c, .int .i64 z]) ∧ RArg encT 5 w' a n c l ∧ Below w.heap.size w w'
end Go.Proofs.Ytnjlbgnojlmmlaa
