/-
  WHAT IS LEFT OF A SET behind a key, plain; CONTRACT of pieces, whatever it is to visit.
-/
import Derived.Test.YtelgigahjgjjiabSpanB
import Derived.Shelf.Abstract
namespace Go.Proofs.Ytelgigahjgjjiab
open Go.RowKit Go.Shelf

/-- l is what is left of the set A behind z. -/
def Suf (A l : List Sp) (z : Int) : Prop :=
  canB (-1) l = true ∧ (∀ j, z ≤ j → hasB A j = hasB l j) ∧ (∀ s t, l = s :: t → z < s.2) ∧ l.length ≤ A.length
theorem Suf.start {A : List Sp} (h : canB (-1) A = true) : Suf A A 0 :=
  ⟨h, fun _ _ => rfl, fun s t e => by subst e; have := (canB_cons _ _ _).1 h; omega, Nat.le_refl _⟩
theorem Suf.edge {A l : List Sp} {z : Int} (h : Suf A l z) (hz : z < 4096) : z < edgeOf l z ∧ edgeOf l z ≤ 4096 := by
  cases l with
  | nil => exact ⟨hz, Int.le_refl _⟩
  | cons s t =>
    have h1 := (canB_cons _ _ _).1 h.1
    have h2 := h.2.2.1 s t rfl
    unfold edgeOf
    dsimp only
    split <;> omega
theorem Suf.lt {A l : List Sp} {z : Int} (h : Suf A l z) (hl : l ≠ []) : z < 4096 := by
  cases l with
  | nil => exact absurd rfl hl
  | cons s t =>
    have h1 := (canB_cons _ _ _).1 h.1
    have h2 := h.2.2.1 s t rfl
    omega
theorem Suf.seg {A l : List Sp} {z j : Int} (h : Suf A l z) (h1 : z ≤ j) (h2 : j < edgeOf l z) : hasB A j = begB l z := by
  rw [h.2.1 j h1]
  cases l with
  | nil => rfl
  | cons s t =>
    have c := (canB_cons _ _ _).1 h.1
    unfold edgeOf at h2
    dsimp only at h2
    unfold begB
    dsimp only
    rw [hasB_cons]
    by_cases hs : s.1 ≤ z
    · rw [if_pos hs] at h2
      rw [(inB_iff s j).2 (by omega), decide_eq_true hs]; rfl
    · rw [if_neg hs] at h2
      rw [canB_low c.2.2 (by omega), decide_eq_false hs, Bool.or_false]
      cases hi : inB s j
      · rfl
      · rw [inB_iff] at hi; omega
theorem Suf.aft {A l : List Sp} {z hi : Int} (h : Suf A l z) (h1 : z < hi) (h2 : hi ≤ edgeOf l z) : Suf A (aftOf l hi) hi := by
  cases l with
  | nil => exact ⟨rfl, fun j hj => h.2.1 j (by omega), fun s t e => by simp [aftOf] at e, Nat.zero_le _⟩
  | cons s t =>
    have c := (canB_cons _ _ _).1 h.1
    have h3 := h.2.2.1 s t rfl
    unfold edgeOf at h2
    dsimp only at h2
    unfold aftOf
    dsimp only
    split
    · rename_i he
      refine ⟨canB_weak (by omega) c.2.2, fun j hj => ?_, fun x y e => ?_, by have := h.2.2.2; simp at this; omega⟩
      · rw [h.2.1 j (by omega), hasB_cons]
        cases hi' : inB s j
        · rfl
        · rw [inB_iff] at hi'; omega
      · subst e
        have := (canB_cons _ _ _).1 c.2.2
        omega
    · refine ⟨h.1, fun j hj => h.2.1 j (by omega), fun x y e => ?_, h.2.2.2⟩
      cases e
      split at h2 <;> omega
theorem Suf.done {A : List Sp} {z j : Int} (h : Suf A [] z) (hj : z ≤ j) : hasB A j = false := h.2.1 j hj

/-- What visit makes of the stretch that ends at hi: it goes on, or not. -/
def Seen (Inv : Int → World → Prop) (Fin : World → Prop) (hi : Int) (c : Bool) (w' : World) : Prop := (c = true → Inv hi w') ∧ (c = false → Fin w')
/-- What is asked of visit. -/
def Vis (g : Nat) (lb : Array Value) (A B : List Sp) (B0 : Nat) (Inv : Int → World → Prop) (Fin : World → Prop) : Prop :=
  ∀ (W : World) (lo hi : Int) (x y : Bool), 0 ≤ lo → lo < hi → hi ≤ 4096 → (∀ j, lo ≤ j → j < hi → hasB A j = x ∧ hasB B j = y) → Inv lo W →
    Calls Try.prog g (#[.agg #[.int .i64 lo, .int .i64 hi], .bool x, .bool y] ++ lb) W fun e w' => ∃ c, e = .returned (.bool c) ∧ Seen Inv Fin hi c w' ∧ Below B0 W w'
def PcPost (A B : List Sp) (Inv : Int → World → Prop) (Fin : World → Prop) (e : Ending) (w' : World) : Prop :=
  e = .returned (.tuple #[]) ∧ (Fin w' ∨ ∃ lo, Inv lo w' ∧ ∀ j, lo ≤ j → hasB A j = false ∧ hasB B j = false)

end Go.Proofs.Ytelgigahjgjjiab
