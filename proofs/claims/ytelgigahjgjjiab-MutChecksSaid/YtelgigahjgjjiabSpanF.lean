/-
  CONTRACTS of Join, Meet, Less; of Touch and its closure.
-/
import Derived.Test.YtelgigahjgjjiabSpanE
namespace Go.Proofs.Ytelgigahjgjjiab
open Go.RowKit Go.Shelf

/-- A slice of spans that a call may be given. -/
def Arg (w : World) (a : Option Addr) (n c : Nat) (l : List Sp) : Prop := n = l.length ∧ (l.length : Int) ≤ 9223372036854775807 ∧ l.length ≤ c ∧ c ≤ maxLen ∧ PIn w w.heap.size a l
theorem Arg.below {w w' : World} {a : Option Addr} {n c : Nat} {l : List Sp} (h : Arg w a n c l) (hb : Below w.heap.size w w') : Arg w' a n c l := ⟨h.1, h.2.1, h.2.2.1, h.2.2.2.1, h.2.2.2.2.belowMore hb⟩
/-- A set that was given, and its error, as arguments show it. -/
def SetArg (w : World) (r : List Sp × Int) (e : Ending) (w' : World) : Prop := ∃ a n c, e = .returned (.tuple #[.slice a n c, .int .i64 r.2]) ∧ Arg w' a n c r.1 ∧ Below w.heap.size w w'
theorem SetPost.arg {w w' : World} {r : List Sp × Int} {e : Ending} (h : SetPost w r e w') : SetArg w r e w' := by
  obtain ⟨a, c, he, h1, h2, h3, h4⟩ := h
  exact ⟨a, _, c, he, ⟨rfl, by unfold maxLen at h2; omega, h1, h2, h3⟩, h4⟩

def joinP (A B : List Sp) : List Sp × Int := mixP (fun x y => x || y) A B
def meetP (A B : List Sp) : List Sp × Int := mixP (fun x y => x && y) A B
def lessP (A B : List Sp) : List Sp × Int := mixP (fun x y => x && !y) A B

/-- The worlds between Touch's visits: nothing in common was found below lo. -/
def TInv (A B : List Sp) (bf : Nat) (w0 : World) (lo : Int) (W : World) : Prop :=
  W.cell? ⟨bf, 0, none⟩ = some (.bool false) ∧ W.frozen? ⟨bf, 0, none⟩ = false ∧ (∀ j, j < lo → (hasB A j && hasB B j) = false) ∧ Below w0.heap.size w0 W
def TFin (A B : List Sp) (bf : Nat) (w0 : World) (W : World) : Prop :=
  W.cell? ⟨bf, 0, none⟩ = some (.bool true) ∧ (∃ j, (hasB A j && hasB B j) = true) ∧ Below w0.heap.size w0 W

/-- Have two sets a key in common? -/
def meets (A B : List Sp) : Bool := decide (∃ k : Nat, k < 4096 ∧ (hasB A k && hasB B k) = true)
def touchB (A B : List Sp) : Bool := chkB A && chkB B && meets A B
theorem meets_yes {A B : List Sp} {j : Int} (h : (hasB A j && hasB B j) = true) : meets A B = true := by
  have h' := hasB_range (Bool.and_eq_true _ _ ▸ h).1
  exact decide_eq_true ⟨j.toNat, by omega, by rw [show ((j.toNat : Nat) : Int) = j by omega]; exact h⟩
theorem meets_no {A B : List Sp} (h : ∀ j, (hasB A j && hasB B j) = false) : meets A B = false :=
  decide_eq_false fun ⟨k, _, hk⟩ => by rw [h] at hk; cases hk

theorem touch_end {A B : List Sp} {b : Nat} {w w4 : World} {r : Bool} (hr : meets A B = r) (h : TFin A B b w w4 ∨ ∃ lo, TInv A B b w lo w4 ∧ ∀ j, lo ≤ j → hasB A j = false ∧ hasB B j = false) :
    ∃ c, w4.cell? ⟨b, 0, none⟩ = some (.bool c) ∧ Hid (c = r) ∧ Below w.heap.size w w4 := by
  rcases h with ⟨h1, ⟨j, hj⟩, h3⟩ | ⟨lo, ⟨h1, _, h3, h4⟩, h5⟩
  · exact ⟨true, h1, Lib.hid ((meets_yes hj).symm.trans hr), h3⟩
  · refine ⟨false, h1, Lib.hid ((meets_no fun j => ?_).symm.trans hr), h4⟩
    by_cases hj : j < lo
    · exact h3 j hj
    · rw [(h5 j (by omega)).1]; rfl

theorem check_arg (A : List Sp) (aA : Option Addr) (nA cA : Nat) (w : World) (hA : Arg w aA nA cA A) : Calls Try.prog 19 #[.slice aA nA cA] w (Gives w (.bool (chkB A))) := by
  obtain ⟨rfl, zA, kA, mA, pA⟩ := hA
  exact check_any aA cA A w zA pA
theorem count_arg (A : List Sp) (aA : Option Addr) (nA cA : Nat) (w : World) (hA : Arg w aA nA cA A) : Calls Try.prog 22 #[.slice aA nA cA] w (Gives w (.int .i64 (cntB A))) := by
  obtain ⟨rfl, zA, kA, mA, pA⟩ := hA
  exact count_any aA cA A w zA pA
end Go.Proofs.Ytelgigahjgjjiab
