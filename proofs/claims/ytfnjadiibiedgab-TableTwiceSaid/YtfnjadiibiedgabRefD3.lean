/-
  CONTRACTS of the document's Count, Set, Make.
-/
import Derived.Test.YtfnjadiibiedgabRefC3
namespace Go.Proofs.Ytfnjadiibiedgab
open Go.RowKit Go.Shelf

theorem cntB_chk' {l : List Sp} (h : chkB l = true) : cntB l = cardOf (hasB l) := by
  unfold cntB
  rw [if_pos h, sum_of_can (chkB_can h).1]
theorem limP_yes' {L : List Sp} (h : L.length ≤ 64) : limP L = (L, 0) := if_pos h
theorem limP_no' {L : List Sp} (h : ¬ L.length ≤ 64) : limP L = ([], 2) := if_neg h
/-- The set as Set has built it, below the key k. -/
def Runs (p : Int → Bool) (k : Nat) (L : List Sp) : Prop := canB (-1) L = true ∧ (∀ j, hasB L j = (decide (0 ≤ j ∧ j < k) && p j)) ∧ endOf (-1) L ≤ k ∧ (endOf (-1) L < k ∨ k = 4096 ∨ p k = false)
theorem Runs.start (p : Int → Bool) : Runs p 0 [] := ⟨rfl, fun j => by rw [hasB_nil, decide_eq_false (by omega)]; rfl, by show (-1 : Int) ≤ _; omega, .inl (by show (-1 : Int) < _; omega)⟩
theorem Runs.skip {p : Int → Bool} {k : Nat} {L : List Sp} (h : Runs p k L) (hp : p k = false) : Runs p (k + 1) L := by
  refine ⟨h.1, fun j => ?_, by have := h.2.2.1; omega, .inl (by have := h.2.2.1; omega)⟩
  rw [h.2.1]
  by_cases hj : j = k
  · subst hj; rw [hp, Bool.and_false, Bool.and_false]
  · rw [decide_eq_decide.2 (show (0 ≤ j ∧ j < (k : Int)) ↔ (0 ≤ j ∧ j < ((k + 1 : Nat) : Int)) by omega)]
theorem Runs.add {p : Int → Bool} {k m : Nat} {L : List Sp} (h : Runs p k L) (hkm : k < m) (hm : m ≤ 4096) (hall : ∀ i : Nat, k ≤ i → i < m → p i = true) (hend : m = 4096 ∨ p m = false) : Runs p m (L ++ [((k : Int), (m : Int))]) := by
  have hlt : endOf (-1) L < k := by
    rcases h.2.2.2 with h1 | h1 | h1
    · exact h1
    · omega
    · rw [hall k (Nat.le_refl _) hkm] at h1; cases h1
  refine ⟨(canB_snoc _ _ _).2 ⟨h.1, ⟨by dsimp only; omega, by dsimp only; omega, by dsimp only; omega⟩, hlt⟩, fun j => ?_, by rw [endOf_snoc]; exact Int.le_refl _, .inr hend⟩
  rw [hasB_append, h.2.1, hasB_cons, hasB_nil, Bool.or_false]
  by_cases hj : (k : Int) ≤ j ∧ j < m
  · have e := hall j.toNat (by omega) (by omega)
    rw [show ((j.toNat : Nat) : Int) = j by omega] at e
    rw [e, (inB_iff _ j).2 (by dsimp only; omega), Bool.or_true, decide_eq_true (by omega)]; rfl
  · have : inB ((k : Int), (m : Int)) j = false := by
      cases hi' : inB ((k : Int), (m : Int)) j
      · rfl
      · rw [inB_iff] at hi'; dsimp only at hi'; omega
    rw [this, Bool.or_false, decide_eq_decide.2 (show (0 ≤ j ∧ j < (k : Int)) ↔ (0 ≤ j ∧ j < (m : Int)) by omega)]
theorem Runs.done {p : Int → Bool} {L : List Sp} (h : Runs p 4096 L) : L = setOf p := setOf_eq h.1 fun j h0 h1 => by rw [h.2.1, decide_eq_true ⟨h0, h1⟩, Bool.true_and]
theorem Runs.len {p : Int → Bool} {k : Nat} {L : List Sp} (h : Runs p k L) : L.length ≤ 5000 := by
  by_cases hl : L = []
  · subst hl; simp
  · have := canB_len _ _ h.1 hl; omega

end Go.Proofs.Ytfnjadiibiedgab
