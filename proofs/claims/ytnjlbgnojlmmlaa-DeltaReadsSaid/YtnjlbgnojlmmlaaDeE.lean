/-
  DELTA: the document's Fits and Make (written by wip/tools/mkDeE.py).
-/
import Derived.Test.YtnjlbgnojlmmlaaDeB
import Derived.Test.YtnjlbgnojlmmlaaDeD
namespace Go.Proofs.Ytnjlbgnojlmmlaa
open Go.RowKit Go.Deep Go.Shelf

theorem fits_no {a : List Pr} {l : List Tn} {j : Nat} (hj : j < l.length) (h : cellOf a l[j]!.1 ≠ l[j]!.2.1) : fitsB a l = false := by
  cases hta : tblB a with
  | false => unfold fitsB; rw [hta]; rfl
  | true =>
    cases htl : chkB l with
    | false => unfold fitsB; rw [hta, htl]; rfl
    | true =>
      rw [Bool.eq_false_iff]
      intro hf
      have h1 := (fits_iff hta htl).1 hf l[j]!.1 l[j]!.2 (turnAt_mem htl (getElem!_mem hj))
      exact h h1.symm
theorem fits_yes {a : List Pr} {l : List Tn} (h : ∀ j, j < l.length → cellOf a l[j]!.1 = l[j]!.2.1) : fitsB a l = (tblB a && chkB l) := by
  cases hta : tblB a with
  | false => unfold fitsB; rw [hta]; rfl
  | true =>
    cases htl : chkB l with
    | false => unfold fitsB; rw [hta, htl]; rfl
    | true =>
      rw [Bool.and_self]
      refine (fits_iff hta htl).2 (fun k c hc => ?_)
      obtain ⟨j, hj, e⟩ := List.mem_iff_getElem.1 (turnAt_in hc)
      have h1 := h j hj
      rw [getElem!_pos l j hj, e] at h1
      exact h1.symm
/-! What is made, step by step. -/
theorem cellD2 (w : World) (x0 x1 : Value) (t : TypeId) : ∀ j u, [x0, x1][j]? = some u → ((w.alloc (.cells #[x0, x1] t)).drew).cell? ((⟨w.heap.size, 0, none⟩ : Addr).add j) = some u := cells_one_new2 w x0 x1 t
def mkS (a : List Pr) (l : List Tn) : List Pr := (meetsPT a l).filterMap mF
def isP (t : Tn) : List Pr := if t.2.2.2 then [(t.1, t.2.2.1)] else []
theorem mkS_nil : mkS [] [] = [] := by unfold mkS; simp only [meetsPT, meets_nil]; rfl
theorem mkS_a (x : Pr) (a : List Pr) : mkS (x :: a) [] = x :: mkS a [] := by unfold mkS; simp only [meetsPT, meets_a]; rfl
theorem mkS_lt {x : Pr} {y : Tn} (a : List Pr) (l : List Tn) (h : x.1 < y.1) : mkS (x :: a) (y :: l) = x :: mkS a (y :: l) := by unfold mkS; simp only [meetsPT]; rw [meets_lt _ _ _ _ _ _ h]; rfl
theorem mkS_b (y : Tn) (l : List Tn) : mkS [] (y :: l) = isP y ++ mkS [] l := by
  unfold mkS isP; simp only [meetsPT, meets_b, List.filterMap_cons, mF, isX]
  obtain ⟨k, c, v, s⟩ := y
  cases s <;> rfl
theorem mkS_gt {x : Pr} {y : Tn} (a : List Pr) (l : List Tn) (h : y.1 < x.1) : mkS (x :: a) (y :: l) = isP y ++ mkS (x :: a) l := by
  unfold mkS isP; simp only [meetsPT]; rw [meets_gt _ _ _ _ _ _ h]; simp only [List.filterMap_cons, mF, isX]
  obtain ⟨k, c, v, s⟩ := y
  cases s <;> rfl
theorem mkS_eq {x : Pr} {y : Tn} (a : List Pr) (l : List Tn) (h : x.1 = y.1) : mkS (x :: a) (y :: l) = isP y ++ mkS a l := by
  unfold mkS isP; simp only [meetsPT]; rw [meets_eq _ _ _ _ _ _ h]; simp only [List.filterMap_cons, mF, isX]
  obtain ⟨k, c, v, s⟩ := y
  dsimp only at h ⊢
  cases s
  · rfl
  · simp [h]
theorem mkS_len (a : List Pr) (l : List Tn) : (mkS a l).length ≤ a.length + l.length := Nat.le_trans (List.length_filterMap_le _ _) (meets_len _ _ _ _ a l)
theorem makS_mkS (a : List Pr) (l : List Tn) : makS (meetsPT a l) = mkS a l := makS_fm _
end Go.Proofs.Ytnjlbgnojlmmlaa
