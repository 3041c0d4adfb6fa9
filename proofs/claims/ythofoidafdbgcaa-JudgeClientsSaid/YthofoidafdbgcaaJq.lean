/-
  CONTRACT: the document's Clip.
-/
import Derived.Test.YthofoidafdbgcaaJp
namespace Go.Proofs.Ythofoidafdbgcaa
open Go.RowKit Go.Shelf

theorem take_filter {l : List Sp} {k : Nat} {q : Sp → Bool} (h : k < l.length) : (l.take (k + 1)).filter q = (l.take k).filter q ++ (if q (l.getD k (0, 0)) = true then [l.getD k (0, 0)] else []) := by
  rw [take_more h, List.filter_append]
  congr 1
  generalize l.getD k (0, 0) = s
  cases hq : q s <;> simp [hq]
theorem filter_take_len (l : List Sp) (k : Nat) (q : Sp → Bool) : ((l.take k).filter q).length ≤ k := Nat.le_trans (List.length_filter_le _ _) (List.length_take_le _ _)

end Go.Proofs.Ythofoidafdbgcaa
