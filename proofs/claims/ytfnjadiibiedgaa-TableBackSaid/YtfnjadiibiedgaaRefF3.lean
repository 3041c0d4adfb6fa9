/-
  CONTRACTS of the document's Some.
-/
import Derived.Test.YtfnjadiibiedgaaRefE3
namespace Go.Proofs.Ytfnjadiibiedgaa
open Go.RowKit Go.Shelf

/-- Is there a key at which f holds of two sets? -/
def anyB (f : Bool → Bool → Bool) (A B : List Sp) : Bool := decide (∃ k : Nat, k < 4096 ∧ f (hasB A k) (hasB B k) = true)
theorem anyB_yes {f : Bool → Bool → Bool} {A B : List Sp} {k : Nat} (hk : k < 4096) (h : f (hasB A k) (hasB B k) = true) : anyB f A B = true := decide_eq_true ⟨k, hk, h⟩
theorem anyB_no {f : Bool → Bool → Bool} {A B : List Sp} (h : ∀ k : Nat, k < 4096 → f (hasB A k) (hasB B k) = false) : anyB f A B = false := decide_eq_false fun ⟨k, hk, e⟩ => by rw [h k hk] at e; cases e

/-- Within's answer, as Awake3 has it. -/
def withinB' (A B : List Sp) : Bool := decide ((meetP A B).2 = 0) && decide ((meetP A B).1 = A)
theorem touchB_some (A B : List Sp) : touchB A B = ((chkB A && chkB B) && anyB (fun x y => x && y) A B) := rfl
theorem withinB_some (A B : List Sp) : withinB' A B = ((chkB A && chkB B) && !anyB (fun x y => x && !y) A B) := by
  unfold withinB'
  cases kA : chkB A
  · rw [show meetP A B = ([], 1) from if_neg (by rw [kA]; simp), Bool.false_and, Bool.false_and]; simp
  · cases kB : chkB B
    · rw [show meetP A B = ([], 1) from if_neg (by rw [kB]; simp), Bool.and_false, Bool.false_and]; simp
    · rw [show meetP A B = limP (setOf fun j => (fun x y => x && y) (hasB A j) (hasB B j)) from mixP_yes' _ kA kB, Bool.true_and, Bool.true_and]
      have cA := (chkB_can kA).1
      cases hs : anyB (fun x y => x && !y) A B
      · have e : A = setOf fun j => (fun x y => x && y) (hasB A j) (hasB B j) := setOf_eq cA fun j h0 h1 => by
          cases hq : hasB A j && !hasB B j
          · revert hq; cases hasB A j <;> cases hasB B j <;> simp
          · have := anyB_yes (f := fun x y => x && !y) (A := A) (B := B) (k := j.toNat) (by omega) (by rw [show ((j.toNat : Nat) : Int) = j by omega]; exact hq)
            rw [hs] at this; cases this
        rw [← e, limP_yes' (chkB_can kA).2, decide_eq_true rfl, decide_eq_true rfl]; rfl
      · obtain ⟨k, hk, hq⟩ := of_decide_eq_true hs
        have hne : ¬ (setOf fun j => (fun x y => x && y) (hasB A j) (hasB B j)) = A := fun e => by
          have h1 := setOf_has (fun j => (fun x y => x && y) (hasB A j) (hasB B j)) (k : Int)
          rw [e, decide_eq_true (by omega), Bool.true_and] at h1
          revert hq h1
          dsimp only
          cases hasB A (k : Int) <;> cases hasB B (k : Int) <;> simp
        by_cases hl : (setOf fun j => (fun x y => x && y) (hasB A j) (hasB B j)).length ≤ 64
        · rw [limP_yes' hl, decide_eq_false hne, Bool.and_false]; rfl
        · rw [limP_no' hl]; rfl
end Go.Proofs.Ytfnjadiibiedgaa
