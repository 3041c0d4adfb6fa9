/-
  CONTRACTS of combine and its closure; Join, Meet, Less, Touch.
-/
import Derived.Test.YtelgigahjgjjiabSpanD
namespace Go.Proofs.Ytelgigahjgjjiab
open Go.RowKit Go.Shelf

/-- A test that is handed to combine. -/
def Keeps (gk : Nat) (f : Bool → Bool → Bool) : Prop :=
  ∀ (x y : Bool) (w : World), Calls Try.prog gk #[.bool x, .bool y] w fun e w' => e = .returned (.bool (f x y)) ∧ w = w'
/-- The set as combine has built it, below the key lo. -/
def Built (A B : List Sp) (f : Bool → Bool → Bool) (lo : Int) (l : List Sp) : Prop :=
  canB (-1) l = true ∧ loOf l ≤ lo ∧ ∀ j, hasB l j = (decide (0 ≤ j ∧ j < lo) && f (hasB A j) (hasB B j))
theorem Built.start (A B : List Sp) (f : Bool → Bool → Bool) : Built A B f 0 [] := ⟨rfl, Int.le_refl _, fun j => by rw [hasB_nil, decide_eq_false (by omega)]; rfl⟩
theorem Built.skip {A B l : List Sp} {f : Bool → Bool → Bool} {lo hi : Int} {x y : Bool} (h : Built A B f lo l) (h1 : lo < hi) (hs : ∀ j, lo ≤ j → j < hi → hasB A j = x ∧ hasB B j = y) (hf : f x y = false) : Built A B f hi l := by
  refine ⟨h.1, by have := h.2.1; omega, fun j => ?_⟩
  rw [h.2.2 j]
  by_cases hj : lo ≤ j ∧ j < hi
  · obtain ⟨e1, e2⟩ := hs j hj.1 hj.2
    rw [e1, e2, hf, Bool.and_false, Bool.and_false]
  · rw [show decide (0 ≤ j ∧ j < lo) = decide (0 ≤ j ∧ j < hi) from decide_eq_decide.2 (by omega)]
theorem Built.add {A B l : List Sp} {f : Bool → Bool → Bool} {lo hi : Int} {x y : Bool} (h : Built A B f lo l) (h0 : 0 ≤ lo) (h1 : lo < hi) (h2 : hi ≤ 4096) (hs : ∀ j, lo ≤ j → j < hi → hasB A j = x ∧ hasB B j = y) (hf : f x y = true) : Built A B f hi (ext l (lo, hi)) := by
  obtain ⟨e1, e2, e3⟩ := ext_can (s := (lo, hi)) h.1 ((oneB_iff _).2 ⟨h0, h1, h2⟩) h.2.1
  refine ⟨e1, by dsimp only at e3; omega, fun j => ?_⟩
  rw [e2, h.2.2 j]
  by_cases hj : lo ≤ j ∧ j < hi
  · obtain ⟨g1, g2⟩ := hs j hj.1 hj.2
    rw [g1, g2, hf, (inB_iff (lo, hi) j).2 (by dsimp only; omega), Bool.or_true, decide_eq_true (by omega)]; rfl
  · have : inB (lo, hi) j = false := by
      cases hi' : inB (lo, hi) j
      · rfl
      · rw [inB_iff] at hi'; dsimp only at hi'; omega
    rw [this, Bool.or_false, show decide (0 ≤ j ∧ j < lo) = decide (0 ≤ j ∧ j < hi) from decide_eq_decide.2 (by omega)]
theorem Built.len {A B l : List Sp} {f : Bool → Bool → Bool} {lo : Int} (h : Built A B f lo l) : l.length ≤ 4097 := by
  by_cases hl : l = []
  · subst hl; simp
  · have := canB_len l _ h.1 hl; omega
theorem Built.len' {A B l : List Sp} {f : Bool → Bool → Bool} {lo : Int} (h : Built A B f lo l) : l.length ≤ 5000 := by have := h.len; omega
theorem Built.done {A B l : List Sp} {f : Bool → Bool → Bool} {lo : Int} (h : Built A B f lo l) (hf : f false false = false) (hd : ∀ j, lo ≤ j → hasB A j = false ∧ hasB B j = false) : l = setOf fun j => f (hasB A j) (hasB B j) :=
  setOf_eq h.1 fun j h0 _ => by
    rw [h.2.2 j]
    by_cases hj : j < lo
    · rw [decide_eq_true ⟨h0, hj⟩, Bool.true_and]
    · obtain ⟨e1, e2⟩ := hd j (by omega)
      rw [e1, e2, hf, Bool.and_false]

/-- The worlds between combine's visits: the set in its box, the test in its own. -/
def CInv (A B : List Sp) (f : Bool → Bool → Bool) (gk bk bs base : Nat) (w0 : World) (lo : Int) (W : World) : Prop :=
  ∃ a cap l, OwnsP 24 W base (.slice a l.length cap) l ∧ W.cell? ⟨bs, 0, none⟩ = some (.slice a l.length cap) ∧ W.frozen? ⟨bs, 0, none⟩ = false ∧ W.cell? ⟨bk, 0, none⟩ = some (.func (.func gk) #[] #[]) ∧
    Built A B f lo l ∧ Below w0.heap.size w0 W ∧ base ≤ W.heap.size

def limP (L : List Sp) : List Sp × Int := if L.length ≤ 64 then (L, 0) else ([], 2)
def mixP (f : Bool → Bool → Bool) (A B : List Sp) : List Sp × Int := if chkB A = true ∧ chkB B = true then limP (setOf fun j => f (hasB A j) (hasB B j)) else ([], 1)
/-- A set, and its error. -/
def SetPost (w : World) (r : List Sp × Int) (e : Ending) (w' : World) : Prop :=
  ∃ a cap, e = .returned (.tuple #[.slice a r.1.length cap, .int .i64 r.2]) ∧ r.1.length ≤ cap ∧ cap ≤ maxLen ∧ PIn w' w'.heap.size a r.1 ∧ Below w.heap.size w w'
theorem SetPost.nil {w w' : World} {x : Int} (hb : Below w.heap.size w w') : SetPost w ([], x) (.returned (.tuple #[.slice none 0 0, .int .i64 x])) w' := ⟨none, 0, rfl, Nat.le_refl _, Nat.zero_le _, PIn.nil _ _ _, hb⟩

theorem limit_yes (a : Option Addr) (n cap : Nat) (w : World) (h : n ≤ 64) : Calls Try.prog 72 #[.slice a n cap] w fun e w' => e = .returned (.tuple #[.slice a n cap, .int .i64 0]) ∧ w = w' :=
  (limit_any a n cap w (by omega)).mono fun _ _ ⟨he, hw⟩ => ⟨by rw [he, if_pos h], hw⟩
theorem limit_no (a : Option Addr) (n cap : Nat) (w : World) (h : ¬ n ≤ 64) (hz : n ≤ 5000) : Calls Try.prog 72 #[.slice a n cap] w fun e w' => e = .returned (.tuple #[.slice none 0 0, .int .i64 2]) ∧ w = w' :=
  (limit_any a n cap w (by omega)).mono fun _ _ ⟨he, hw⟩ => ⟨by rw [he, if_neg h], hw⟩

end Go.Proofs.Ytelgigahjgjjiab
