/-
  CONTRACTS of Join, Meet, Less; of Touch and its closure.
-/
import Derived.Test.YtfnjadiibiedgaaSpanE
namespace Go.Proofs.Ytfnjadiibiedgaa
open Go.RowKit Go.Shelf

set_option maxRecDepth 100000 in
set_option maxHeartbeats 1000000 in
theorem combine_bad (gk : Nat) (A B : List Sp) (aA aB : Option Addr) (cA cB : Nat) (w : World) (zA : (A.length : Int) ≤ 9223372036854775807) (zB : (B.length : Int) ≤ 9223372036854775807)
    (pA : PIn w w.heap.size aA A) (pB : PIn w w.heap.size aB B) (hbad : chkB A = false ∨ (chkB A = true ∧ chkB B = false)) :
    Calls Try.prog 135 #[.slice aA A.length cA, .slice aB B.length cB, .func (.func gk) #[] #[]] w (SetPost w ([], 1)) := by
  have HPA := Lib.hid pA
  have HPB := Lib.hid pB
  obtain ⟨W1, hW1⟩ : ∃ W1, w.alloc (.cells #[.func (.func gk) #[] #[]] 172) = W1 := ⟨_, rfl⟩
  have b1 : Below w.heap.size w W1 := by rw [← hW1]; exact (Below.refl _ _).alloc (Nat.le_refl _) _
  clear pA pB
  rcases hbad with hA | ⟨hA, hB⟩
  · replace hA := Lib.hid hA
    go_enter Try.func135, Try.ntmps135
    go_wp2_with (first | (go_at_call 19; (with_reducible refine (check_any aA cA A _ zA (HPA.out.belowMore b1)).mono ?_); rw [hA.out]; rintro e w2 ⟨rfl, b2⟩; have b12 := below_next b1 b2))
    go_ret2
    exact SetPost.nil b12
  · replace hA := Lib.hid hA
    replace hB := Lib.hid hB
    go_enter Try.func135, Try.ntmps135
    go_wp2_with (first | (go_at_call 19; (with_reducible refine (check_any aA cA A _ zA (HPA.out.belowMore b1)).mono ?_); rw [hA.out]; rintro e w2 ⟨rfl, b2⟩; have b12 := below_next b1 b2) | (go_at_call 19; (with_reducible refine (check_any aB cB B _ zB (HPB.out.belowMore b12)).mono ?_); rw [hB.out]; rintro e w3 ⟨rfl, b3⟩; have b13 := below_next b12 b3))
    go_ret2
    exact SetPost.nil b13

/-- A slice of spans that a call may be given. -/
def Arg (w : World) (a : Option Addr) (n c : Nat) (l : List Sp) : Prop := n = l.length ∧ (l.length : Int) ≤ 9223372036854775807 ∧ l.length ≤ c ∧ c ≤ maxLen ∧ PIn w w.heap.size a l
theorem Arg.below {w w' : World} {a : Option Addr} {n c : Nat} {l : List Sp} (h : Arg w a n c l) (hb : Below w.heap.size w w') : Arg w' a n c l := ⟨h.1, h.2.1, h.2.2.1, h.2.2.2.1, h.2.2.2.2.belowMore hb⟩
/-- A set that was given, and its error, as arguments show it. -/
def SetArg (w : World) (r : List Sp × Int) (e : Ending) (w' : World) : Prop := ∃ a n c, e = .returned (.tuple #[.slice a n c, .int .i64 r.2]) ∧ Arg w' a n c r.1 ∧ Below w.heap.size w w'
theorem SetPost.arg {w w' : World} {r : List Sp × Int} {e : Ending} (h : SetPost w r e w') : SetArg w r e w' := by
  obtain ⟨a, c, he, h1, h2, h3, h4⟩ := h
  exact ⟨a, _, c, he, ⟨rfl, by unfold maxLen at h2; omega, h1, h2, h3⟩, h4⟩

theorem combine_any (gk : Nat) (f : Bool → Bool → Bool) (eg : ∀ args w, (callFunc gk args).run Try.prog w = .ok (.enter gk args) w) (hk : Keeps gk f) (hf : f false false = false)
    (A B : List Sp) (aA aB : Option Addr) (nA nB cA cB : Nat) (w : World) (hA : Arg w aA nA cA A) (hB : Arg w aB nB cB B) :
    Calls Try.prog 135 #[.slice aA nA cA, .slice aB nB cB, .func (.func gk) #[] #[]] w (SetArg w (mixP f A B)) := by
  obtain ⟨rfl, zA, kA, mA, pA⟩ := hA
  obtain ⟨rfl, zB, kB, mB, pB⟩ := hB
  refine Calls.mono ?_ fun _ _ h => SetPost.arg h
  cases hA : chkB A
  · rw [show mixP f A B = ([], 1) from if_neg (by rw [hA]; simp)]
    exact combine_bad gk A B aA aB cA cB w zA zB pA pB (.inl hA)
  · cases hB : chkB B
    · rw [show mixP f A B = ([], 1) from if_neg (by rw [hB]; simp)]
      exact combine_bad gk A B aA aB cA cB w zA zB pA pB (.inr ⟨hA, hB⟩)
    · rw [show mixP f A B = limP (setOf fun j => f (hasB A j) (hasB B j)) from if_pos ⟨hA, hB⟩]
      exact combine_ok gk f eg hk hf A B aA aB cA cB w zA zB kA kB mA mB pA pB hA hB

def joinP (A B : List Sp) : List Sp × Int := mixP (fun x y => x || y) A B
def meetP (A B : List Sp) : List Sp × Int := mixP (fun x y => x && y) A B
def lessP (A B : List Sp) : List Sp × Int := mixP (fun x y => x && !y) A B

theorem meet_any (A B : List Sp) (aA aB : Option Addr) (nA nB cA cB : Nat) (w : World) (hA : Arg w aA nA cA A) (hB : Arg w aB nB cB B) :
    Calls Try.prog 119 #[.slice aA nA cA, .slice aB nB cB] w (SetArg w (meetP A B)) := by
  have C := Lib.hid (combine_any 136 _ (enters_of Try.func136 (by kernel_rfl) rfl) meet1 rfl A B aA aB nA nB cA cB w hA hB)
  clear hA hB
  go_enter Try.func119, Try.ntmps119
  go_wp2_with (go_at_call 135; (with_reducible refine C.out.mono ?_); rintro e w' ⟨a, n, c, rfl, h1, h2⟩)
  go_ret2
  exact ⟨a, n, c, rfl, h1, h2⟩
/-- The worlds between Touch's visits: nothing in common was found below lo. -/
def TInv (A B : List Sp) (bf : Nat) (w0 : World) (lo : Int) (W : World) : Prop :=
  W.cell? ⟨bf, 0, none⟩ = some (.bool false) ∧ W.frozen? ⟨bf, 0, none⟩ = false ∧ (∀ j, j < lo → (hasB A j && hasB B j) = false) ∧ Below w0.heap.size w0 W
def TFin (A B : List Sp) (bf : Nat) (w0 : World) (W : World) : Prop :=
  W.cell? ⟨bf, 0, none⟩ = some (.bool true) ∧ (∃ j, (hasB A j && hasB B j) = true) ∧ Below w0.heap.size w0 W

/-- Have two sets a key in common? -/
def meets (A B : List Sp) : Bool := decide (∃ k : Nat, k < 4096 ∧ (hasB A k && hasB B k) = true)
def touchB (A B : List Sp) : Bool := chkB A && chkB B && meets A B
theorem meets_yes {A B : List Sp} {j : Int} (h : (hasB A j && hasB B j) = true) : meets A B = true := by
  have h' := hasB_range (Bool.and_eq_true _ _ ▸ h).1
  exact decide_eq_true ⟨j.toNat, by omega, by rw [show ((j.toNat : Nat) : Int) = j by omega]; exact h⟩
theorem meets_no {A B : List Sp} (h : ∀ j, (hasB A j && hasB B j) = false) : meets A B = false :=
  decide_eq_false fun ⟨k, _, hk⟩ => by rw [h] at hk; cases hk

theorem touch_end {A B : List Sp} {b : Nat} {w w4 : World} {r : Bool} (hr : meets A B = r) (h : TFin A B b w w4 ∨ ∃ lo, TInv A B b w lo w4 ∧ ∀ j, lo ≤ j → hasB A j = false ∧ hasB B j = false) :
    ∃ c, w4.cell? ⟨b, 0, none⟩ = some (.bool c) ∧ Hid (c = r) ∧ Below w.heap.size w w4 := by
  rcases h with ⟨h1, ⟨j, hj⟩, h3⟩ | ⟨lo, ⟨h1, _, h3, h4⟩, h5⟩
  · exact ⟨true, h1, Lib.hid ((meets_yes hj).symm.trans hr), h3⟩
  · refine ⟨false, h1, Lib.hid ((meets_no fun j => ?_).symm.trans hr), h4⟩
    by_cases hj : j < lo
    · exact h3 j hj
    · rw [(h5 j (by omega)).1]; rfl

theorem check_arg (A : List Sp) (aA : Option Addr) (nA cA : Nat) (w : World) (hA : Arg w aA nA cA A) : Calls Try.prog 19 #[.slice aA nA cA] w (Gives w (.bool (chkB A))) := by
  obtain ⟨rfl, zA, kA, mA, pA⟩ := hA
  exact check_any aA cA A w zA pA
theorem count_arg (A : List Sp) (aA : Option Addr) (nA cA : Nat) (w : World) (hA : Arg w aA nA cA A) : Calls Try.prog 23 #[.slice aA nA cA] w (Gives w (.int .i64 (cntB A))) := by
  obtain ⟨rfl, zA, kA, mA, pA⟩ := hA
  exact count_any aA cA A w zA pA
end Go.Proofs.Ytfnjadiibiedgaa
