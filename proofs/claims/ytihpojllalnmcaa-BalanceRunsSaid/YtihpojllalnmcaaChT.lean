/-
  THE STATEMENT 'splicelaw08.ChartSets'.
-/
import Derived.Test.YtihpojllalnmcaaChO
import Derived.Test.YtihpojllalnmcaaChW
import Derived.Test.YtihpojllalnmcaaSB
import Derived.Test.YtihpojllalnmcaaSC
import Derived.Lib.MinMax
import Derived.Deep.DeepCutAuto
namespace Go.Proofs.Ytihpojllalnmcaa
open Go.RowKit Go.Shelf Go.ChangeShapes Go.WideShapes Go.Deep

theorem toDK {B : Nat} {a X : World} (h : Below B a X) : Below B a X.drew := ⟨h.os, h.tape, h.output, h.size, h.block⟩
def encI (z : Int) : List Value := [.int .i64 z]
theorem encI_len (z : Int) : (encI z).length = 1 := rfl
theorem flatI (zs : List Int) : flatR encI zs = zs.map (Value.int .i64) := by
  induction zs with
  | nil => rfl
  | cons z t ih =>
    show encI z ++ flatR encI t = _
    rw [ih]
    rfl
theorem OwnsI.rarg {w : World} {base : Nat} {v : Value} {zs : List Int} (h : OwnsI w base v zs) : ∃ a c, v = .slice a zs.length c ∧ RArg encI 1 w a zs.length c zs := by
  refine OwnsR.arg (t := 3) (base := base) encI_len ?_
  unfold OwnsR
  rw [flatI]
  exact h
theorem RIn.int {w : World} {B : Nat} {a : Option Addr} {l : List Int} (h : RIn encI 1 w B a l) (j : Nat) (hj : j < l.length) : ∃ b off, a = some ⟨b, off, none⟩ ∧ b < B ∧ w.cell? ⟨b, off + j, none⟩ = some (.int .i64 l[j]!) := by
  obtain ⟨b, off, e, hb, hc⟩ := h j hj
  have := hc 0 _ rfl
  rw [Nat.mul_one, Nat.add_zero] at this
  exact ⟨b, off, e, hb, this⟩
theorem getD_bang {l : List Sp} {m : Nat} (h : m < l.length) : l.getD m (0, 0) = l[m]! := by
  rw [getElem!_pos l m h, List.getD_eq_getElem?_getD, List.getElem?_eq_getElem h]
  rfl
theorem heap_lt {W : World} {b : Nat} {o : Obj} (h : W.heap[b]? = some o) : b < W.heap.size := (Array.getElem?_eq_some_iff.1 h).1
theorem any_more {α : Type} [Inhabited α] {p : α → Bool} {l : List α} {k : Nat} (h : k < l.length) : (l.take (k + 1)).any p = ((l.take k).any p || p l[k]!) := by
  rw [take_moreG h, List.any_append]
  simp
theorem cell4K {W : World} {x y z u : Value} {t : TypeId} : (W.alloc (.cells #[x, y, z, u] t)).cell? ⟨W.heap.size, 0, none⟩ = some x ∧ (W.alloc (.cells #[x, y, z, u] t)).cell? ⟨W.heap.size, 1, none⟩ = some y ∧ (W.alloc (.cells #[x, y, z, u] t)).cell? ⟨W.heap.size, 2, none⟩ = some z ∧ (W.alloc (.cells #[x, y, z, u] t)).cell? ⟨W.heap.size, 3, none⟩ = some u :=
  ⟨cell_of_row _ _ 0 _ _ _ (heap_alloc_new _ _), cell_of_row _ _ 1 _ _ _ (heap_alloc_new _ _), cell_of_row _ _ 2 _ _ _ (heap_alloc_new _ _), cell_of_row _ _ 3 _ _ _ (heap_alloc_new _ _)⟩
theorem set4K {W : World} {b : Nat} {x y z u x' y' z' u' : Value} {t : TypeId} (h : W.heap[b]? = some (.cells #[x, y, z, u] t)) :
    (((W.setCell ⟨b, 0, none⟩ x').setCell ⟨b, 1, none⟩ y').setCell ⟨b, 2, none⟩ z' |>.setCell ⟨b, 3, none⟩ u').heap[b]? = some (.cells #[x', y', z', u'] t) :=
  by
  have h0 := heap_setCell_same _ _ 0 _ _ x' h
  have h1 := heap_setCell_same _ _ 1 _ _ y' h0
  have h2 := heap_setCell_same _ _ 2 _ _ z' h1
  exact heap_setCell_same _ _ 3 _ _ u' h2

end Go.Proofs.Ytihpojllalnmcaa
