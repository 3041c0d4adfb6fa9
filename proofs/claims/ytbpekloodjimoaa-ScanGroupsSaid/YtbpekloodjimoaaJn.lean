/-
  CONTRACTS: slices.Grow of no pairs, slices.Concat of two rows of pairs, slices.SortFunc of pairs by their keys.
-/
import Derived.Test.YtbpekloodjimoaaTB
namespace Go.Proofs.Ytbpekloodjimoaa
open Go.RowKit Go.Shelf
open Go.Sort (HoldsK PermIn SortedIn SWO grow putRowK putRow)

/-- An own row of no pairs, with room or without. -/
def RowPost (l : List Sp) (w : World) (e : Ending) (w' : World) : Prop := ∃ v, e = .returned v ∧ w'.ownsRow w.heap.size 43 2 v l.length (flatP l) ∧ Below w.heap.size w w'
end Go.Proofs.Ytbpekloodjimoaa
