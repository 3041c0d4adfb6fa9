/-
  SCAN: contracts of Nth, Rank and the document's Rank; an argument of two numbers.
-/
import Derived.Test.YtbpekloodjimoaaScL
import Derived.Test.YtbpekloodjimoaaJq
import Derived.OpenShut
namespace Go.Proofs.Ytbpekloodjimoaa
open Go.RowKit Go.Shelf Go.WideShapes

def nthP (M : List Sp) (k : Int) : Sp × Bool := if 0 ≤ k ∧ k < (M.length : Int) then (M.getD k.toNat (0, 0), true) else ((0, 0), false)
def NthPost (r : Sp × Bool) (w : World) (e : Ending) (w' : World) : Prop := e = .returned (.tuple #[.agg #[.int .i64 r.1.1, .int .i64 r.1.2], .bool r.2]) ∧ Below w.heap.size w w'
theorem nth_ret {r : Sp × Bool} {x y : Int} {b : Bool} (h : r = ((x, y), b)) : Ending.returned (.tuple #[.agg #[.int .i64 x, .int .i64 y], .bool b]) = .returned (.tuple #[.agg #[.int .i64 r.1.1, .int .i64 r.1.2], .bool r.2]) := by rw [h]
theorem cell2 {W : World} {b : Nat} {x y : Value} {t : TypeId} (h : W.heap[b]? = some (.cells #[x, y] t)) : W.cell? ⟨b, 0, none⟩ = some x ∧ W.cell? ⟨b, 1, none⟩ = some y :=
  ⟨cell_of_row _ _ 0 _ _ _ h, cell_of_row _ _ 1 _ _ _ h⟩
theorem froz2 {W : World} {b : Nat} {x y : Value} {t : TypeId} (h : W.heap[b]? = some (.cells #[x, y] t)) : W.frozen? ⟨b, 0, none⟩ = false ∧ W.frozen? ⟨b, 1, none⟩ = false :=
  ⟨frozen_of_row _ _ 0 _ _ h, frozen_of_row _ _ 1 _ _ h⟩
theorem plc_self {M : List Sp} (h : tblB M = true) {j : Nat} (hj : j < M.length) : plc M (M.getD j (0, 0)).1 = j := by
  have pw := (tblF_pw M (-1) h).2
  have g : ∀ i (hi : i < M.length), M.getD i (0, 0) = M[i] := fun i hi => by rw [List.getD_eq_getElem?_getD, List.getElem?_eq_getElem hi]; rfl
  refine plc_of M _ j (Nat.le_of_lt hj) (fun i hi => ?_) (fun _ => Int.le_refl _)
  rw [g i (by omega), g j hj]
  exact List.pairwise_iff_getElem.1 pw i j (by omega) hj hi
end Go.Proofs.Ytbpekloodjimoaa
