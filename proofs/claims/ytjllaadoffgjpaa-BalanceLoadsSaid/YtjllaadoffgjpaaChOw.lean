/-
  CONTRACT of the document's Owners.
-/
import Derived.Test.YtjllaadoffgjpaaChU
namespace Go.Proofs.Ytjllaadoffgjpaa
open Go.RowKit Go.Shelf Go.ChangeShapes Go.WideShapes Go.Deep

def qB (lo hi : Int) (q : Sp) : Bool := decide (q.1 < hi) && decide (lo < q.2)
theorem canB_one : ∀ (l : List Sp) (e : Int), canB e l = true → ∀ q ∈ l, oneB q = true
  | [], _, _, q, hq => absurd hq (by simp)
  | s :: t, e, h, q, hq => by
    obtain ⟨h1, _, h3⟩ := (canB_cons e s t).1 h
    rcases List.mem_cons.1 hq with rfl | hq
    · exact (oneB_iff _).2 h1
    · exact canB_one t _ h3 q hq
theorem touch_q {lo hi : Int} {K : List Sp} (hK : chkB K = true) (ho : oneB (lo, hi) = true) : touchB [(lo, hi)] K = K.any (qB lo hi) := by
  have ho2 := (oneB_iff _).1 ho
  dsimp only at ho2
  rw [Bool.eq_iff_iff]
  constructor
  · intro h
    obtain ⟨q, hq, h1, _, h3, h4⟩ := touch_has h
    refine List.any_eq_true.2 ⟨q, hq, ?_⟩
    unfold qB
    rw [Bool.and_eq_true, decide_eq_true_iff, decide_eq_true_iff]
    omega
  · intro h
    obtain ⟨q, hq, h1⟩ := List.any_eq_true.1 h
    unfold qB at h1
    rw [Bool.and_eq_true, decide_eq_true_iff, decide_eq_true_iff] at h1
    have hc : canB (-1) K = true := by
      unfold chkB at hK
      rw [Bool.and_eq_true] at hK
      exact hK.1
    have hq1 := (oneB_iff _).1 (canB_one K _ hc q hq)
    refine touch_of (key := max q.1 lo) ho hK ((hasB_iff _ _).2 ⟨q, hq, (inB_iff _ _).2 ?_⟩) (by omega) (by omega)
    omega
def ownQ (K : List Sp) (l : List Sd) : List Int := (l.filter fun s => K.any (qB s.2.1 s.2.2.1)).map fun s => s.1
theorem ownQ_is {ep nx : Int} {l : List Sd} {K : List Sp} (hc : chkC ep nx l = true) (hK : chkB K = true) : ownersC ep nx l K = ownQ K l := by
  unfold ownersC ownL ownQ
  rw [if_pos hc]
  congr 1
  apply List.filter_congr
  intro s hs
  exact touch_q hK (chk_one hc hs)
theorem ownersC_bad {ep nx : Int} {l : List Sd} {K : List Sp} (hK : chkB K = false) : ownersC ep nx l K = [] := by
  unfold ownersC ownL
  split
  · rw [List.filter_eq_nil_iff.2 (fun s _ => by unfold touchB; rw [hK]; simp)]
    rfl
  · rfl
theorem ownQ_more {K : List Sp} {l : List Sd} {k : Nat} (h : k < l.length) {i lo hi nd : Int} (hs : l[k]! = (i, lo, hi, nd)) (ht : K.any (qB lo hi) = true) : ownQ K (l.take (k + 1)) = ownQ K (l.take k) ++ [i] := by
  rw [take_moreG h, hs]
  unfold ownQ
  rw [List.filter_append, List.map_append]
  simp [ht]
theorem ownQ_skip {K : List Sp} {l : List Sd} {k : Nat} (h : k < l.length) {i lo hi nd : Int} (hs : l[k]! = (i, lo, hi, nd)) (ht : K.any (qB lo hi) = false) : ownQ K (l.take (k + 1)) = ownQ K (l.take k) := by
  rw [take_moreG h, hs]
  unfold ownQ
  rw [List.filter_append, List.map_append]
  simp [ht]
theorem ownQ_len (K : List Sp) (l : List Sd) : (ownQ K l).length ≤ l.length := by
  unfold ownQ
  rw [List.length_map]
  exact List.length_filter_le _ _
end Go.Proofs.Ytjllaadoffgjpaa
