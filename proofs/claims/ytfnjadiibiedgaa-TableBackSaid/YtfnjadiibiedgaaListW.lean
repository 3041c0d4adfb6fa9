/-
  CONTRACTS of the writers of lists: vint's List and the document's.
-/
import Derived.Test.YtfnjadiibiedgaaInts
namespace Go.Proofs.Ytfnjadiibiedgaa
open Go.RowKit

theorem wholesL_snoc (l : List Int) (z : Int) : wholesL (l ++ [z]) = wholesL l ++ numL (foldZ z).toNat := by
  induction l with
  | nil => simp [wholesL]
  | cons a r ih => simp [wholesL, ih]
theorem wholesL_len (l : List Int) (h : ∀ z ∈ l, mayZ z = true) : (wholesL l).length ≤ 9 * l.length := by
  induction l with
  | nil => simp [wholesL]
  | cons a r ih =>
    have h1 := foldZ_le (h a (by simp))
    have h2 := numL_len9 (n := (foldZ a).toNat) (by have := foldZ_nonneg a; omega)
    have h3 := ih (fun z hz => h z (by simp [hz]))
    simp [wholesL]
    omega
theorem take_more1 {zs : List Int} {k : Nat} (h : k < zs.length) : zs.take (k + 1) = zs.take k ++ [zs.getD k 0] := by
  rw [List.take_succ_eq_append_getElem h]; simp [List.getD, List.getElem?_eq_getElem h]
theorem listS_yes {zs : List Int} (h : ∀ z ∈ zs, mayZ z = true) : listS zs = ⟨(numL zs.length ++ wholesL zs).toArray⟩ := by
  unfold listS; rw [if_pos (by simpa using h)]
theorem listS_no {zs : List Int} {k : Nat} (hk : k < zs.length) (h : mayZ (zs.getD k 0) = false) : listS zs = ByteArray.empty := by
  unfold listS; rw [if_neg]
  intro hall
  have := List.all_eq_true.1 hall (zs.getD k 0) (by simp [List.getD, List.getElem?_eq_getElem hk])
  rw [h] at this; cases this

end Go.Proofs.Ytfnjadiibiedgaa
