/-
  Law4B, Law4C: one text.
-/
import Derived.Test.YthofoidafdbgcaaMA3
/-
  MutOrder walked.
-/
namespace Go.Proofs.Ythofoidafdbgcaa
open Go.RowKit Go.Shelf Go.ChangeShapes Go.WideShapes Go.Deep

end Go.Proofs.Ythofoidafdbgcaa


/-
  MutStamps walked.
-/
namespace Go.Proofs.Ythofoidafdbgcaa
open Go.RowKit Go.Shelf Go.ChangeShapes Go.WideShapes Go.Deep

/-- Three boxes of any cells, behind calls. -/
theorem st3 {w W : World} {ta tb tc : TypeId} {x y z : Array Value} (h : Below (((w.alloc (.cells x ta)).alloc (.cells y tb)).alloc (.cells z tc)).heap.size (((w.alloc (.cells x ta)).alloc (.cells y tb)).alloc (.cells z tc)) W) :
    (∀ i, W.cell? ⟨w.heap.size, i, none⟩ = x[i]?) ∧ (∀ i, W.cell? ⟨w.heap.size + 1, i, none⟩ = y[i]?) ∧ (∀ i, W.cell? ⟨w.heap.size + 2, i, none⟩ = z[i]?) := by
  have A := fun i => h.cell (p := ⟨w.heap.size, i, none⟩) (by simp; omega)
  have B := fun i => h.cell (p := ⟨w.heap.size + 1, i, none⟩) (by simp)
  have C := fun i => h.cell (p := ⟨w.heap.size + 2, i, none⟩) (by simp)
  have z1 : (w.alloc (.cells x ta)).heap.size = w.heap.size + 1 := by simp
  have z2 : ((w.alloc (.cells x ta)).alloc (.cells y tb)).heap.size = w.heap.size + 2 := by simp
  refine ⟨fun i => (A i).trans ?_, fun i => (B i).trans ?_, fun i => (C i).trans ?_⟩
  · rw [World.cell?_alloc_lt _ _ ⟨w.heap.size, i, none⟩ (by rw [z2]; show w.heap.size < _; omega), World.cell?_alloc_lt _ _ ⟨w.heap.size, i, none⟩ (by rw [z1]; show w.heap.size < _; omega)]
    exact cell_of_row _ _ _ _ _ _ (heap_alloc_new _ _)
  · rw [World.cell?_alloc_lt _ _ ⟨w.heap.size + 1, i, none⟩ (by rw [z2]; show w.heap.size + 1 < _; omega), ← z1]
    exact cell_of_row _ _ _ _ _ _ (heap_alloc_new _ _)
  · rw [← z2]
    exact cell_of_row _ _ _ _ _ _ (heap_alloc_new _ _)
/-- Two new boxes, behind a draw and calls. -/
theorem st2 {w W : World} {ta tb : TypeId} {x y : Array Value} (h : Below (((w.alloc (.cells x ta)).alloc (.cells y tb)).drew).heap.size (((w.alloc (.cells x ta)).alloc (.cells y tb)).drew) W) :
    (∀ i, W.cell? ⟨w.heap.size, i, none⟩ = x[i]?) ∧ (∀ i, W.cell? ⟨w.heap.size + 1, i, none⟩ = y[i]?) := by
  have A := fun i => h.cell (p := ⟨w.heap.size, i, none⟩) (by simp; omega)
  have B := fun i => h.cell (p := ⟨w.heap.size + 1, i, none⟩) (by simp)
  have z1 : (w.alloc (.cells x ta)).heap.size = w.heap.size + 1 := by simp
  refine ⟨fun i => (A i).trans ?_, fun i => (B i).trans ?_⟩
  · rw [show (((w.alloc (.cells x ta)).alloc (.cells y tb)).drew).cell? ⟨w.heap.size, i, none⟩ = ((w.alloc (.cells x ta)).alloc (.cells y tb)).cell? ⟨w.heap.size, i, none⟩ from rfl, World.cell?_alloc_lt _ _ ⟨w.heap.size, i, none⟩ (by rw [z1]; show w.heap.size < _; omega)]
    exact cell_of_row _ _ _ _ _ _ (heap_alloc_new _ _)
  · rw [← z1]
    exact cell_of_row _ _ _ _ _ _ (heap_alloc_new _ _)

theorem cmp3 (t1 c1 s1 t2 c2 s2 : Int) : (cmpS t1 c1 s1 t2 c2 s2 = 0 ∧ befB t1 c1 s1 t2 c2 s2 = false ∧ befB t2 c2 s2 t1 c1 s1 = false ∧ (t1 == t2 && (c1 == c2 && s1 == s2)) = true) ∨ (cmpS t1 c1 s1 t2 c2 s2 = -1 ∧ befB t1 c1 s1 t2 c2 s2 = true ∧ befB t2 c2 s2 t1 c1 s1 = false ∧ (t1 == t2 && (c1 == c2 && s1 == s2)) = false) ∨ (cmpS t1 c1 s1 t2 c2 s2 = 1 ∧ befB t1 c1 s1 t2 c2 s2 = false ∧ befB t2 c2 s2 t1 c1 s1 = true ∧ (t1 == t2 && (c1 == c2 && s1 == s2)) = false) := by
  unfold cmpS befB
  by_cases h1 : t1 = t2
  · by_cases h2 : c1 = c2
    · by_cases h3 : s1 = s2
      · left; simp [h1, h2, h3]
      · by_cases h4 : s1 < s2
        · right; left; simp [h1, h2, h3, h4]; omega
        · right; right; simp [h1, h2, h3, h4]; omega
    · by_cases h4 : c1 < c2
      · right; left; simp [h1, h2, Ne.symm h2, h4]; omega
      · right; right; simp [h1, h2, Ne.symm h2, h4]; omega
  · by_cases h4 : t1 < t2
    · right; left; simp [h1, Ne.symm h1, h4]; omega
    · right; right; simp [h1, Ne.symm h1, h4]; omega

end Go.Proofs.Ythofoidafdbgcaa
