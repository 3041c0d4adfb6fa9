/-
  CONTRACT of awake (of the statements on mutations).
-/
import Derived.Test.YtfnjadiibiedgabMutG
namespace Go.Proofs.Ytfnjadiibiedgab
open Go.RowKit Go.Shelf

theorem touch_ex : touchL 1 1 5 [(9, 3), (4, 3)] 0 0 0 = [(4, 5), (9, 10)] := by
  have h1 : chkM 1 1 5 [(9, 3), (4, 3)] 0 0 0 = true := by decide +kernel
  unfold touchL
  rw [if_pos h1, if_neg (by decide)]
  refine (setOf_eq (by decide) fun k _ _ => ?_).symm
  rw [Bool.eq_iff_iff]
  simp only [List.map, sing, hasB_cons, hasB_nil, Bool.or_eq_true, inB_iff]
  simp
  omega
theorem text_ex : textT 1 2 1 [(5, 7)] 0 0 0 = [1, 2, 1, 1, 5, 14] := by decide +kernel

end Go.Proofs.Ytfnjadiibiedgab
