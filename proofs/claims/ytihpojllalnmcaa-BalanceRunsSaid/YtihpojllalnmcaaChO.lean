/-
  CONTRACT: chart.Owners.
-/
import Derived.Test.YtihpojllalnmcaaVA
import Derived.Test.YtihpojllalnmcaaChS
import Derived.Test.YtihpojllalnmcaaChG
namespace Go.Proofs.Ytihpojllalnmcaa
open Go.RowKit Go.Shelf

/-- Numbers that were given, in a row of the call's own. -/
def IntsRet (zs : List Int) (w : World) (e : Ending) (w' : World) : Prop := ∃ v, e = .returned v ∧ OwnsI w' w.heap.size v zs ∧ Below w.heap.size w w'
theorem OwnsI.low {w : World} {base base' : Nat} {v : Value} {l : List Int} (h : OwnsI w base v l) (hb : base' ≤ base) : OwnsI w base' v l := by
  refine ⟨h.1, ?_⟩
  rcases h.2 with hn | ⟨k, cap, cur, rfl, hk, rest⟩
  · exact .inl hn
  · exact .inr ⟨k, cap, cur, rfl, Nat.le_trans hb hk, rest⟩
theorem OwnsI.below {w w' : World} {base : Nat} {v : Value} {l : List Int} (h : OwnsI w base v l) (hb : Below w.heap.size w w') : OwnsI w' base v l := by
  refine ⟨h.1, ?_⟩
  rcases h.2 with hn | ⟨g, cap, cur, rfl, hbb, hg, rest⟩
  · exact .inl hn
  · exact .inr ⟨g, cap, cur, rfl, hbb, (hb.block g (World.ownsRow.lt h g rfl).2).trans hg, rest⟩
theorem ownL_more {K : List Sp} {l : List Sd} {k : Nat} (h : k < l.length) {i lo hi nd : Int} (hs : l[k]! = (i, lo, hi, nd)) (ht : touchB [(lo, hi)] K = true) : ownL K (l.take (k + 1)) = ownL K (l.take k) ++ [i] := by
  rw [take_moreG h, hs]
  unfold ownL
  rw [List.filter_append, List.map_append]
  simp [ht]
theorem ownL_skip {K : List Sp} {l : List Sd} {k : Nat} (h : k < l.length) {i lo hi nd : Int} (hs : l[k]! = (i, lo, hi, nd)) (ht : touchB [(lo, hi)] K = false) : ownL K (l.take (k + 1)) = ownL K (l.take k) := by
  rw [take_moreG h, hs]
  unfold ownL
  rw [List.filter_append, List.map_append]
  simp [ht]
theorem ownL_len (K : List Sp) (l : List Sd) : (ownL K l).length ≤ l.length := by
  unfold ownL
  rw [List.length_map]
  exact List.length_filter_le _ _
theorem span_new (w : World) (lo hi : Int) (t : TypeId) : Arg (w.alloc (.cells #[.int .i64 lo, .int .i64 hi] t)) (some ⟨w.heap.size, 0, none⟩) 1 1 [(lo, hi)] := by
  refine ⟨rfl, by simp, by simp, by unfold maxLen; omega, fun j hj => ?_⟩
  have hj0 : j = 0 := by simpa using hj
  subst hj0
  exact ⟨w.heap.size, 0, rfl, by simp, cell_of_row _ _ 0 _ _ _ (heap_alloc_new _ _), cell_of_row _ _ 1 _ _ _ (heap_alloc_new _ _)⟩
end Go.Proofs.Ytihpojllalnmcaa
