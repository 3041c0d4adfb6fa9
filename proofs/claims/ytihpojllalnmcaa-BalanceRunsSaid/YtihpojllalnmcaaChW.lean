/-
  THE STATEMENT 'splicelaw08.ChartWhole'.
-/
import Derived.Test.YtihpojllalnmcaaChI
import Derived.Deep.DeepCutAuto
namespace Go.Proofs.Ytihpojllalnmcaa
open Go.RowKit Go.Shelf Go.ChangeShapes Go.WideShapes Go.Deep

theorem box2W {w W : World} {t : TypeId} {x y : Value} (hb : Below (w.alloc (.cells #[x, y] t)).heap.size (w.alloc (.cells #[x, y] t)) W) :
    W.cell? ⟨w.heap.size, 0, none⟩ = some x ∧ W.cell? ⟨w.heap.size, 1, none⟩ = some y := by
  have hs : w.heap.size < (w.alloc (.cells #[x, y] t)).heap.size := by simp
  have c := fun i => hb.cell (p := ⟨w.heap.size, i, none⟩) hs
  exact ⟨(c 0).trans (cell_of_row _ _ 0 _ _ _ (heap_alloc_new _ _)), (c 1).trans (cell_of_row _ _ 1 _ _ _ (heap_alloc_new _ _))⟩
theorem cntK_take {key : Int} {l : List Sd} {j : Nat} (hj : j < l.length) : cntK key (l.take (j + 1)) = cntK key (l.take j) + if hasK key l[j]! = true then 1 else 0 := by
  rw [take_moreG hj]
  unfold cntK
  rw [List.filter_append, List.length_append]
  congr 1
  rw [List.filter_cons]
  split <;> rfl
theorem cntK_le (key : Int) (l : List Sd) (j : Nat) : cntK key (l.take j) ≤ l.length := by
  unfold cntK
  exact Nat.le_trans (List.length_filter_le _ _) (List.length_take_le' _ _)

end Go.Proofs.Ytihpojllalnmcaa
