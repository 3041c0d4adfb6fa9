/-
  THE LAW BalanceRests: its walk.
-/
import Derived.Test.YtihpojllalnmcaaBaS
import Derived.Test.YtihpojllalnmcaaBaM
import Derived.BigQuiet
namespace Go.Proofs.Ytihpojllalnmcaa
open Go.RowKit Go.Shelf

theorem cells8C {W : World} {b : Nat} {x y z u v s t r : Value} {T : TypeId} (h : W.heap[b]? = some (.cells #[x, y, z, u, v, s, t, r] T)) :
    W.cell? ⟨b, 0, none⟩ = some x ∧ W.cell? ⟨b, 1, none⟩ = some y ∧ W.cell? ⟨b, 2, none⟩ = some z ∧ W.cell? ⟨b, 3, none⟩ = some u ∧ W.cell? ⟨b, 4, none⟩ = some v ∧ W.cell? ⟨b, 5, none⟩ = some s ∧ W.cell? ⟨b, 6, none⟩ = some t ∧ W.cell? ⟨b, 7, none⟩ = some r :=
  ⟨cell_of_row _ _ 0 _ _ _ h, cell_of_row _ _ 1 _ _ _ h, cell_of_row _ _ 2 _ _ _ h, cell_of_row _ _ 3 _ _ _ h, cell_of_row _ _ 4 _ _ _ h, cell_of_row _ _ 5 _ _ _ h, cell_of_row _ _ 6 _ _ _ h, cell_of_row _ _ 7 _ _ _ h⟩
theorem wB_more {l : List Sp} {lo hi : Int} {j : Nat} (h : j < l.length) : ((l.take (j + 1)).filter (wB lo hi)).length = ((l.take j).filter (wB lo hi)).length + (if wB lo hi (l.getD j (0, 0)) = true then 1 else 0) := by
  rw [take_more h, List.filter_append, List.length_append, List.filter_cons]
  split <;> simp
theorem cell_lt {W : World} {b i : Nat} {v : Value} (h : W.cell? ⟨b, i, none⟩ = some v) : b < W.heap.size := by
  rcases Nat.lt_or_ge b W.heap.size with q | q
  · exact q
  · exfalso
    simp [World.cell?, Array.getElem?_eq_none q] at h
end Go.Proofs.Ytihpojllalnmcaa
