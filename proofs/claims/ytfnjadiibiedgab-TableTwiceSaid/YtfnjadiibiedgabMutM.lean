/-
  WHICH KEYS A MUTATION TOUCHES: plain mathematics.
-/
import Derived.Test.YtfnjadiibiedgabTch
namespace Go.Proofs.Ytfnjadiibiedgab
open Go.RowKit Go.Shelf

theorem any_sing : ∀ (l : List Sp) (_ : okPs l = true) (key : Int), hasB (l.map sing) key = l.any fun p => p.1 == key
  | [], _, _ => rfl
  | p :: t, h, key => by
    have h' : (okP p && okPs t) = true := h
    rw [Bool.and_eq_true] at h'
    have hb := (okP_bd h'.1).1
    rw [List.map_cons, hasB_cons, List.any_cons, any_sing t h'.2 key]
    congr 1
    rw [Bool.eq_iff_iff, inB_iff]
    simp only [beq_iff_eq]
    show (0 ≤ p.1 ∧ p.1 < p.1 + 1 ∧ p.1 + 1 ≤ 4096 ∧ p.1 ≤ key ∧ key < p.1 + 1) ↔ p.1 = key
    constructor
    · intro q; omega
    · intro q; omega
theorem canB_one {s : Sp} (h : oneB s = true) : canB (-1) [s] = true := by
  have := (oneB_iff s).1 h
  exact (canB_cons (-1) s []).2 ⟨this, by omega, rfl⟩
theorem touch_math {c s k : Int} {l : List Sp} {lo hi old : Int} (hc : chkM c s k l lo hi old = true) (key : Int) :
    chkB (touchL c s k l lo hi old) = true ∧ hasB (touchL c s k l lo hi old) key = touchesB k l lo hi key ∧ (touchL c s k l lo hi old).length ≤ 8 := by
  have hL : touchL c s k l lo hi old = if k = 2 then [(lo, hi)] else setOf (hasB (l.map sing)) := if_pos hc
  rcases fits_kind (chkM_and hc).2.2.2 with ⟨hk, _, ho⟩ | ⟨hk, hok, _, h8⟩
  · rw [hL, if_pos hk]
    have ho' := (oneB_iff _).1 ho
    refine ⟨?_, ?_, by simp⟩
    · unfold chkB
      rw [canB_one ho]
      rfl
    · unfold touchesB
      rw [if_pos hk, hasB_cons, hasB_nil, Bool.or_false, Bool.eq_iff_iff, inB_iff, Bool.and_eq_true, decide_eq_true_iff, decide_eq_true_iff]
      dsimp only at ho' ⊢
      constructor
      · intro q; omega
      · intro q; omega
  · have hk2 : k ≠ 2 := by omega
    rw [hL, if_neg hk2]
    have hlen := merge_len (l.map sing) (sing_all hok)
    rw [List.length_map] at hlen
    refine ⟨?_, ?_, by omega⟩
    · unfold chkB
      rw [setOf_can, Bool.true_and]
      exact decide_eq_true (by omega)
    · unfold touchesB
      rw [if_neg hk2, setOf_has, ← any_sing l hok key]
      cases hh : hasB (l.map sing) key
      · simp
      · have := hasB_range hh
        simp [this]
theorem touch_one {c s k : Int} {l : List Sp} {lo hi old : Int} (h : aloneB c s k l lo hi old = true) : cntB (touchL c s k l lo hi old) = 1 := by
  unfold aloneB at h
  rw [Bool.and_eq_true, Bool.or_eq_true, beq_iff_eq, beq_iff_eq] at h
  obtain ⟨hk, hc⟩ := h
  have hL : touchL c s k l lo hi old = if k = 2 then [(lo, hi)] else setOf (hasB (l.map sing)) := if_pos hc
  have hf := (chkM_and hc).2.2.2
  have hl : l.length = 1 ∧ okPs l = true := by
    unfold fitsB at hf
    rcases hk with rfl | rfl
    · simpa using hf
    · rw [if_neg (by omega), if_neg (by omega), if_neg (by omega), if_pos rfl] at hf
      rw [Bool.and_eq_true, Bool.and_eq_true] at hf
      exact ⟨by simpa using hf.1.1, hf.1.2⟩
  obtain ⟨p, rfl⟩ : ∃ p, l = [p] := by
    match l, hl.1 with
    | [p], _ => exact ⟨p, rfl⟩
  have hb := (okP_bd (by have := hl.2; unfold okPs at this; simpa using this)).1
  have ho : oneB (sing p) = true := (oneB_iff _).2 (by show 0 ≤ p.1 ∧ p.1 < p.1 + 1 ∧ p.1 + 1 ≤ 4096; omega)
  have hcan := canB_one ho
  rw [hL, if_neg (by omega), List.map_cons, List.map_nil, setOf_of_can hcan]
  unfold cntB chkB
  rw [hcan]
  show (if (true && decide (1 ≤ 64)) = true then lenSum [sing p] else 0) = 1
  simp [lenSum, sing]
  omega
end Go.Proofs.Ytfnjadiibiedgab
