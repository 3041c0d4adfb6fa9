/-
  CONTRACTS of the document's Some.
-/
import Derived.Test.YtelgigahjgjjiaaRefE3
namespace Go.Proofs.Ytelgigahjgjjiaa
open Go.RowKit Go.Shelf

/-- Is there a key at which f holds of two sets? -/
def anyB (f : Bool → Bool → Bool) (A B : List Sp) : Bool := decide (∃ k : Nat, k < 4096 ∧ f (hasB A k) (hasB B k) = true)
theorem anyB_yes {f : Bool → Bool → Bool} {A B : List Sp} {k : Nat} (hk : k < 4096) (h : f (hasB A k) (hasB B k) = true) : anyB f A B = true := decide_eq_true ⟨k, hk, h⟩
theorem anyB_no {f : Bool → Bool → Bool} {A B : List Sp} (h : ∀ k : Nat, k < 4096 → f (hasB A k) (hasB B k) = false) : anyB f A B = false := decide_eq_false fun ⟨k, hk, e⟩ => by rw [h k hk] at e; cases e

set_option maxRecDepth 100000 in
set_option maxHeartbeats 4000000 in
theorem some1_any (A B : List Sp) (aA aB : Option Addr) (nA nB cA cB : Nat) (w : World) (hA : Arg w aA nA cA A) (hB : Arg w aB nB cB B) :
    Calls Try.prog 31 #[.slice aA nA cA, .slice aB nB cB, .int .i64 1] w (Gives w (.bool (anyB (fun x y => x && y) A B))) := by
  replace hA := Lib.hid hA
  replace hB := Lib.hid hB
  go_enter Try.func31, Try.ntmps31
  go_wp2_with (first | (go_at_call 37; (with_reducible refine (keys_any aA nA cA A _ hA.out).mono ?_); rintro e w3 ⟨gA, dA, rfl, hKA, b3⟩; replace hKA := Lib.hid hKA) | (go_at_call 37; (with_reducible refine (keys_any aB nB cB B _ (hB.out.below b3)).mono ?_); rintro e w4 ⟨gB, dB, rfl, hKB, b4⟩; have b14 := below_next b3 b4; replace hKB := Lib.hid hKB; have hKA' := Lib.hid (hKA.out.below b4)))
  go_loopw [9] (fun i wr => ∃ (k : Nat), i = .int .i64 (k : Int) ∧ k ≤ 4096 ∧ Hid (∀ j : Nat, j < k → (fun x y => x && y) (hasB A j) (hasB B j) = false) ∧ wr = w4)
    (fun i _ => 4096 - (intOf i).toNat)
  case atStart => exact ⟨0, rfl, by omega, Lib.hid (fun j h => absurd h (Nat.not_lt_zero _)), rfl⟩
  case round =>
    obtain ⟨k, rfl, hk4, HK, rfl⟩ := hrel
    by_cases hlt : k < 4096
    · have hltz : (k : Int) < 4096 := by omega
      have cx := hKA'.out.2 k hlt
      have cy := hKB.out.2 k hlt
      cases hx : hasB A (k : Int)
      · cases hy : hasB B (k : Int)
        ·
          rw [hx] at cx
          rw [hy] at cy
          have hnx := Lib.hid (show ∀ j : Nat, j < k + 1 → (fun x y => x && y) (hasB A j) (hasB B j) = false from fun j hj => by
            by_cases e : j = k
            · subst e; dsimp only; rw [hx, hy]; rfl
            · exact HK.out j (by omega))
          replace hx := Lib.hid hx
          replace hy := Lib.hid hy
          go_wp2
          go_roundw
          case rel => exact ⟨k + 1, by go_num, by omega, hnx, trivial⟩
          case measure => simp [intOf]; omega
        ·
          rw [hx] at cx
          rw [hy] at cy
          have hnx := Lib.hid (show ∀ j : Nat, j < k + 1 → (fun x y => x && y) (hasB A j) (hasB B j) = false from fun j hj => by
            by_cases e : j = k
            · subst e; dsimp only; rw [hx, hy]; rfl
            · exact HK.out j (by omega))
          replace hx := Lib.hid hx
          replace hy := Lib.hid hy
          go_wp2
          go_roundw
          case rel => exact ⟨k + 1, by go_num, by omega, hnx, trivial⟩
          case measure => simp [intOf]; omega
      · cases hy : hasB B (k : Int)
        ·
          rw [hx] at cx
          rw [hy] at cy
          have hnx := Lib.hid (show ∀ j : Nat, j < k + 1 → (fun x y => x && y) (hasB A j) (hasB B j) = false from fun j hj => by
            by_cases e : j = k
            · subst e; dsimp only; rw [hx, hy]; rfl
            · exact HK.out j (by omega))
          replace hx := Lib.hid hx
          replace hy := Lib.hid hy
          go_wp2
          go_roundw
          case rel => exact ⟨k + 1, by go_num, by omega, hnx, trivial⟩
          case measure => simp [intOf]; omega
        ·
          rw [hx] at cx
          rw [hy] at cy
          have hfin := Lib.hid (anyB_yes (f := fun x y => x && y) (A := A) (B := B) hlt (by rw [hx, hy]; rfl))
          replace hx := Lib.hid hx
          replace hy := Lib.hid hy
          go_wp2
          go_ret
          exact ⟨ret_bool hfin.out.symm, b14⟩
    · have hnlt : ¬ (k : Int) < 4096 := by omega
      have hfin := Lib.hid (anyB_no (f := fun x y => x && y) (A := A) (B := B) fun j hj => HK.out j (by omega))
      go_wp2
      go_ret
      exact ⟨ret_bool hfin.out.symm, b14⟩

set_option maxRecDepth 100000 in
set_option maxHeartbeats 4000000 in
theorem some2_any (A B : List Sp) (aA aB : Option Addr) (nA nB cA cB : Nat) (w : World) (hA : Arg w aA nA cA A) (hB : Arg w aB nB cB B) :
    Calls Try.prog 31 #[.slice aA nA cA, .slice aB nB cB, .int .i64 2] w (Gives w (.bool (anyB (fun x y => x && !y) A B))) := by
  replace hA := Lib.hid hA
  replace hB := Lib.hid hB
  go_enter Try.func31, Try.ntmps31
  go_wp2_with (first | (go_at_call 37; (with_reducible refine (keys_any aA nA cA A _ hA.out).mono ?_); rintro e w3 ⟨gA, dA, rfl, hKA, b3⟩; replace hKA := Lib.hid hKA) | (go_at_call 37; (with_reducible refine (keys_any aB nB cB B _ (hB.out.below b3)).mono ?_); rintro e w4 ⟨gB, dB, rfl, hKB, b4⟩; have b14 := below_next b3 b4; replace hKB := Lib.hid hKB; have hKA' := Lib.hid (hKA.out.below b4)))
  go_loopw [9] (fun i wr => ∃ (k : Nat), i = .int .i64 (k : Int) ∧ k ≤ 4096 ∧ Hid (∀ j : Nat, j < k → (fun x y => x && !y) (hasB A j) (hasB B j) = false) ∧ wr = w4)
    (fun i _ => 4096 - (intOf i).toNat)
  case atStart => exact ⟨0, rfl, by omega, Lib.hid (fun j h => absurd h (Nat.not_lt_zero _)), rfl⟩
  case round =>
    obtain ⟨k, rfl, hk4, HK, rfl⟩ := hrel
    by_cases hlt : k < 4096
    · have hltz : (k : Int) < 4096 := by omega
      have cx := hKA'.out.2 k hlt
      have cy := hKB.out.2 k hlt
      cases hx : hasB A (k : Int)
      · cases hy : hasB B (k : Int)
        ·
          rw [hx] at cx
          rw [hy] at cy
          have hnx := Lib.hid (show ∀ j : Nat, j < k + 1 → (fun x y => x && !y) (hasB A j) (hasB B j) = false from fun j hj => by
            by_cases e : j = k
            · subst e; dsimp only; rw [hx, hy]; rfl
            · exact HK.out j (by omega))
          replace hx := Lib.hid hx
          replace hy := Lib.hid hy
          go_wp2
          go_roundw
          case rel => exact ⟨k + 1, by go_num, by omega, hnx, trivial⟩
          case measure => simp [intOf]; omega
        ·
          rw [hx] at cx
          rw [hy] at cy
          have hnx := Lib.hid (show ∀ j : Nat, j < k + 1 → (fun x y => x && !y) (hasB A j) (hasB B j) = false from fun j hj => by
            by_cases e : j = k
            · subst e; dsimp only; rw [hx, hy]; rfl
            · exact HK.out j (by omega))
          replace hx := Lib.hid hx
          replace hy := Lib.hid hy
          go_wp2
          go_roundw
          case rel => exact ⟨k + 1, by go_num, by omega, hnx, trivial⟩
          case measure => simp [intOf]; omega
      · cases hy : hasB B (k : Int)
        ·
          rw [hx] at cx
          rw [hy] at cy
          have hfin := Lib.hid (anyB_yes (f := fun x y => x && !y) (A := A) (B := B) hlt (by rw [hx, hy]; rfl))
          replace hx := Lib.hid hx
          replace hy := Lib.hid hy
          go_wp2
          go_ret
          exact ⟨ret_bool hfin.out.symm, b14⟩
        ·
          rw [hx] at cx
          rw [hy] at cy
          have hnx := Lib.hid (show ∀ j : Nat, j < k + 1 → (fun x y => x && !y) (hasB A j) (hasB B j) = false from fun j hj => by
            by_cases e : j = k
            · subst e; dsimp only; rw [hx, hy]; rfl
            · exact HK.out j (by omega))
          replace hx := Lib.hid hx
          replace hy := Lib.hid hy
          go_wp2
          go_roundw
          case rel => exact ⟨k + 1, by go_num, by omega, hnx, trivial⟩
          case measure => simp [intOf]; omega
    · have hnlt : ¬ (k : Int) < 4096 := by omega
      have hfin := Lib.hid (anyB_no (f := fun x y => x && !y) (A := A) (B := B) fun j hj => HK.out j (by omega))
      go_wp2
      go_ret
      exact ⟨ret_bool hfin.out.symm, b14⟩

/-- Within's answer, as Awake3 has it. -/
def withinB' (A B : List Sp) : Bool := decide ((meetP A B).2 = 0) && decide ((meetP A B).1 = A)
theorem touchB_some (A B : List Sp) : touchB A B = ((chkB A && chkB B) && anyB (fun x y => x && y) A B) := rfl
theorem withinB_some (A B : List Sp) : withinB' A B = ((chkB A && chkB B) && !anyB (fun x y => x && !y) A B) := by
  unfold withinB'
  cases kA : chkB A
  · rw [show meetP A B = ([], 1) from if_neg (by rw [kA]; simp), Bool.false_and, Bool.false_and]; simp
  · cases kB : chkB B
    · rw [show meetP A B = ([], 1) from if_neg (by rw [kB]; simp), Bool.and_false, Bool.false_and]; simp
    · rw [show meetP A B = limP (setOf fun j => (fun x y => x && y) (hasB A j) (hasB B j)) from mixP_yes' _ kA kB, Bool.true_and, Bool.true_and]
      have cA := (chkB_can kA).1
      cases hs : anyB (fun x y => x && !y) A B
      · have e : A = setOf fun j => (fun x y => x && y) (hasB A j) (hasB B j) := setOf_eq cA fun j h0 h1 => by
          cases hq : hasB A j && !hasB B j
          · revert hq; cases hasB A j <;> cases hasB B j <;> simp
          · have := anyB_yes (f := fun x y => x && !y) (A := A) (B := B) (k := j.toNat) (by omega) (by rw [show ((j.toNat : Nat) : Int) = j by omega]; exact hq)
            rw [hs] at this; cases this
        rw [← e, limP_yes' (chkB_can kA).2, decide_eq_true rfl, decide_eq_true rfl]; rfl
      · obtain ⟨k, hk, hq⟩ := of_decide_eq_true hs
        have hne : ¬ (setOf fun j => (fun x y => x && y) (hasB A j) (hasB B j)) = A := fun e => by
          have h1 := setOf_has (fun j => (fun x y => x && y) (hasB A j) (hasB B j)) (k : Int)
          rw [e, decide_eq_true (by omega), Bool.true_and] at h1
          revert hq h1
          dsimp only
          cases hasB A (k : Int) <;> cases hasB B (k : Int) <;> simp
        by_cases hl : (setOf fun j => (fun x y => x && y) (hasB A j) (hasB B j)).length ≤ 64
        · rw [limP_yes' hl, decide_eq_false hne, Bool.and_false]; rfl
        · rw [limP_no' hl]; rfl
end Go.Proofs.Ytelgigahjgjjiaa
