/-
  SpanD, SpanE, SpanF: one text.
-/
import Derived.Test.YtihpojllalnmcaaSA1
import Derived.RegionTactic
import Derived.IntWalk
/-
  CONTRACT of extend: a span behind the set, or joined to its last one, in a row of the call's own.
-/
namespace Go.Proofs.Ytihpojllalnmcaa
open Go.RowKit

theorem Try.infoSpan : (Try.prog.info? 59).map (fun i => (i.zero, i.size, i.bytes)) = some (some (.agg #[.int .i64 0, .int .i64 0]), 2, 16) := by kernel_rfl

theorem flatP_set (m : List Sp) (x y z : Int) : (flatP (m ++ [(x, y)])).set (m.length * 2 + 1) (.int .i64 z) = flatP (m ++ [(x, z)]) := by
  rw [flatP_append, flatP_append, List.set_append_right _ _ (by rw [flatP_length]; omega), flatP_length, show m.length * 2 + 1 - m.length * 2 = 1 from by omega]
  rfl
theorem OwnsP.last {t : TypeId} {w : World} {base g k cap : Nat} {m : List Sp} {x y : Int} (hk : m.length = k) (h : OwnsP t w base (.slice (some ⟨g, 0, none⟩) (k + 1) cap) (m ++ [(x, y)])) (z : Int) :
    OwnsP t (w.setCell ⟨g, k * 2 + 1, none⟩ (.int .i64 z)) base (.slice (some ⟨g, 0, none⟩) (k + 1) cap) (m ++ [(x, z)]) := by
  subst hk
  have hl : ∀ q, (m ++ [(x, q)]).length = m.length + 1 := fun q => by simp
  unfold OwnsP at h ⊢
  rw [hl] at h ⊢
  have := (World.ownsRow.stored h (m.length * 2 + 1) (.int .i64 z)).1
  rw [flatP_set] at this
  exact this
theorem OwnsP.form {t : TypeId} {w : World} {base : Nat} {v : Value} {l : List Sp} (h : OwnsP t w base v l) (hl : l ≠ []) : ∃ g cap, v = .slice (some ⟨g, 0, none⟩) l.length cap ∧ base ≤ g ∧ g < w.heap.size ∧ cap ≤ maxLen ∧ l.length ≤ cap := by
  obtain ⟨a, cap, hv, hc, hm, _, hn⟩ := h.arg
  obtain ⟨g, rfl, h1, h2⟩ := hn hl
  exact ⟨g, cap, hv, h1, h2, hm, hc⟩

def ExtPost (base : Nat) (l : List Sp) (s : Sp) (w : World) (e : Ending) (w' : World) : Prop :=
  ∃ v', e = .returned v' ∧ OwnsP 59 w' base v' (ext l s) ∧ Below base w w'

theorem OwnsP.snoc {t : TypeId} {w : World} {base n : Nat} {v : Value} {l : List Sp} {p q : Int} (hn : l.length = n) (h : w.ownsRow base t 2 v (n + 1) (flatP l ++ [.int .i64 p, .int .i64 q])) : OwnsP t w base v (l ++ [(p, q)]) := by
  unfold OwnsP
  rw [List.length_append, hn, flatP_append]
  exact h

end Go.Proofs.Ytihpojllalnmcaa


/-
  CONTRACTS of combine and its closure; Join, Meet, Less, Touch.
-/
namespace Go.Proofs.Ytihpojllalnmcaa
open Go.RowKit Go.Shelf

/-- A test that is handed to combine. -/
def Keeps (gk : Nat) (f : Bool → Bool → Bool) : Prop :=
  ∀ (x y : Bool) (w : World), Calls Try.prog gk #[.bool x, .bool y] w fun e w' => e = .returned (.bool (f x y)) ∧ w = w'
/-- The set as combine has built it, below the key lo. -/
def Built (A B : List Sp) (f : Bool → Bool → Bool) (lo : Int) (l : List Sp) : Prop :=
  canB (-1) l = true ∧ loOf l ≤ lo ∧ ∀ j, hasB l j = (decide (0 ≤ j ∧ j < lo) && f (hasB A j) (hasB B j))
theorem Built.start (A B : List Sp) (f : Bool → Bool → Bool) : Built A B f 0 [] := ⟨rfl, Int.le_refl _, fun j => by rw [hasB_nil, decide_eq_false (by omega)]; rfl⟩
theorem Built.skip {A B l : List Sp} {f : Bool → Bool → Bool} {lo hi : Int} {x y : Bool} (h : Built A B f lo l) (h1 : lo < hi) (hs : ∀ j, lo ≤ j → j < hi → hasB A j = x ∧ hasB B j = y) (hf : f x y = false) : Built A B f hi l := by
  refine ⟨h.1, by have := h.2.1; omega, fun j => ?_⟩
  rw [h.2.2 j]
  by_cases hj : lo ≤ j ∧ j < hi
  · obtain ⟨e1, e2⟩ := hs j hj.1 hj.2
    rw [e1, e2, hf, Bool.and_false, Bool.and_false]
  · rw [show decide (0 ≤ j ∧ j < lo) = decide (0 ≤ j ∧ j < hi) from decide_eq_decide.2 (by omega)]
theorem Built.add {A B l : List Sp} {f : Bool → Bool → Bool} {lo hi : Int} {x y : Bool} (h : Built A B f lo l) (h0 : 0 ≤ lo) (h1 : lo < hi) (h2 : hi ≤ 4096) (hs : ∀ j, lo ≤ j → j < hi → hasB A j = x ∧ hasB B j = y) (hf : f x y = true) : Built A B f hi (ext l (lo, hi)) := by
  obtain ⟨e1, e2, e3⟩ := ext_can (s := (lo, hi)) h.1 ((oneB_iff _).2 ⟨h0, h1, h2⟩) h.2.1
  refine ⟨e1, by dsimp only at e3; omega, fun j => ?_⟩
  rw [e2, h.2.2 j]
  by_cases hj : lo ≤ j ∧ j < hi
  · obtain ⟨g1, g2⟩ := hs j hj.1 hj.2
    rw [g1, g2, hf, (inB_iff (lo, hi) j).2 (by dsimp only; omega), Bool.or_true, decide_eq_true (by omega)]; rfl
  · have : inB (lo, hi) j = false := by
      cases hi' : inB (lo, hi) j
      · rfl
      · rw [inB_iff] at hi'; dsimp only at hi'; omega
    rw [this, Bool.or_false, show decide (0 ≤ j ∧ j < lo) = decide (0 ≤ j ∧ j < hi) from decide_eq_decide.2 (by omega)]
theorem Built.len {A B l : List Sp} {f : Bool → Bool → Bool} {lo : Int} (h : Built A B f lo l) : l.length ≤ 4097 := by
  by_cases hl : l = []
  · subst hl; simp
  · have := canB_len l _ h.1 hl; omega
theorem Built.len' {A B l : List Sp} {f : Bool → Bool → Bool} {lo : Int} (h : Built A B f lo l) : l.length ≤ 5000 := by have := h.len; omega
theorem Built.done {A B l : List Sp} {f : Bool → Bool → Bool} {lo : Int} (h : Built A B f lo l) (hf : f false false = false) (hd : ∀ j, lo ≤ j → hasB A j = false ∧ hasB B j = false) : l = setOf fun j => f (hasB A j) (hasB B j) :=
  setOf_eq h.1 fun j h0 _ => by
    rw [h.2.2 j]
    by_cases hj : j < lo
    · rw [decide_eq_true ⟨h0, hj⟩, Bool.true_and]
    · obtain ⟨e1, e2⟩ := hd j (by omega)
      rw [e1, e2, hf, Bool.and_false]

/-- The worlds between combine's visits: the set in its box, the test in its own. -/
def CInv (A B : List Sp) (f : Bool → Bool → Bool) (gk bk bs base : Nat) (w0 : World) (lo : Int) (W : World) : Prop :=
  ∃ a cap l, OwnsP 59 W base (.slice a l.length cap) l ∧ W.cell? ⟨bs, 0, none⟩ = some (.slice a l.length cap) ∧ W.frozen? ⟨bs, 0, none⟩ = false ∧ W.cell? ⟨bk, 0, none⟩ = some (.func (.func gk) #[] #[]) ∧
    Built A B f lo l ∧ Below w0.heap.size w0 W ∧ base ≤ W.heap.size

def limP (L : List Sp) : List Sp × Int := if L.length ≤ 64 then (L, 0) else ([], 2)
def mixP (f : Bool → Bool → Bool) (A B : List Sp) : List Sp × Int := if chkB A = true ∧ chkB B = true then limP (setOf fun j => f (hasB A j) (hasB B j)) else ([], 1)
/-- A set, and its error. -/
def SetPost (w : World) (r : List Sp × Int) (e : Ending) (w' : World) : Prop :=
  ∃ a cap, e = .returned (.tuple #[.slice a r.1.length cap, .int .i64 r.2]) ∧ r.1.length ≤ cap ∧ cap ≤ maxLen ∧ PIn w' w'.heap.size a r.1 ∧ Below w.heap.size w w'
theorem SetPost.nil {w w' : World} {x : Int} (hb : Below w.heap.size w w') : SetPost w ([], x) (.returned (.tuple #[.slice none 0 0, .int .i64 x])) w' := ⟨none, 0, rfl, Nat.le_refl _, Nat.zero_le _, PIn.nil _ _ _, hb⟩

end Go.Proofs.Ytihpojllalnmcaa


/-
  CONTRACTS of Join, Meet, Less; of Touch and its closure.
-/
namespace Go.Proofs.Ytihpojllalnmcaa
open Go.RowKit Go.Shelf

/-- A slice of spans that a call may be given. -/
def Arg (w : World) (a : Option Addr) (n c : Nat) (l : List Sp) : Prop := n = l.length ∧ (l.length : Int) ≤ 9223372036854775807 ∧ l.length ≤ c ∧ c ≤ maxLen ∧ PIn w w.heap.size a l
theorem Arg.below {w w' : World} {a : Option Addr} {n c : Nat} {l : List Sp} (h : Arg w a n c l) (hb : Below w.heap.size w w') : Arg w' a n c l := ⟨h.1, h.2.1, h.2.2.1, h.2.2.2.1, h.2.2.2.2.belowMore hb⟩
/-- A set that was given, and its error, as arguments show it. -/
def SetArg (w : World) (r : List Sp × Int) (e : Ending) (w' : World) : Prop := ∃ a n c, e = .returned (.tuple #[.slice a n c, .int .i64 r.2]) ∧ Arg w' a n c r.1 ∧ Below w.heap.size w w'
theorem SetPost.arg {w w' : World} {r : List Sp × Int} {e : Ending} (h : SetPost w r e w') : SetArg w r e w' := by
  obtain ⟨a, c, he, h1, h2, h3, h4⟩ := h
  exact ⟨a, _, c, he, ⟨rfl, by unfold maxLen at h2; omega, h1, h2, h3⟩, h4⟩

def joinP (A B : List Sp) : List Sp × Int := mixP (fun x y => x || y) A B
def meetP (A B : List Sp) : List Sp × Int := mixP (fun x y => x && y) A B
def lessP (A B : List Sp) : List Sp × Int := mixP (fun x y => x && !y) A B

/-- The worlds between Touch's visits: nothing in common was found below lo. -/
def TInv (A B : List Sp) (bf : Nat) (w0 : World) (lo : Int) (W : World) : Prop :=
  W.cell? ⟨bf, 0, none⟩ = some (.bool false) ∧ W.frozen? ⟨bf, 0, none⟩ = false ∧ (∀ j, j < lo → (hasB A j && hasB B j) = false) ∧ Below w0.heap.size w0 W
def TFin (A B : List Sp) (bf : Nat) (w0 : World) (W : World) : Prop :=
  W.cell? ⟨bf, 0, none⟩ = some (.bool true) ∧ (∃ j, (hasB A j && hasB B j) = true) ∧ Below w0.heap.size w0 W

/-- Have two sets a key in common? -/
def meets (A B : List Sp) : Bool := decide (∃ k : Nat, k < 4096 ∧ (hasB A k && hasB B k) = true)
def touchB (A B : List Sp) : Bool := chkB A && chkB B && meets A B
theorem meets_yes {A B : List Sp} {j : Int} (h : (hasB A j && hasB B j) = true) : meets A B = true := by
  have h' := hasB_range (Bool.and_eq_true _ _ ▸ h).1
  exact decide_eq_true ⟨j.toNat, by omega, by rw [show ((j.toNat : Nat) : Int) = j by omega]; exact h⟩
theorem meets_no {A B : List Sp} (h : ∀ j, (hasB A j && hasB B j) = false) : meets A B = false :=
  decide_eq_false fun ⟨k, _, hk⟩ => by rw [h] at hk; cases hk

theorem touch_end {A B : List Sp} {b : Nat} {w w4 : World} {r : Bool} (hr : meets A B = r) (h : TFin A B b w w4 ∨ ∃ lo, TInv A B b w lo w4 ∧ ∀ j, lo ≤ j → hasB A j = false ∧ hasB B j = false) :
    ∃ c, w4.cell? ⟨b, 0, none⟩ = some (.bool c) ∧ Hid (c = r) ∧ Below w.heap.size w w4 := by
  rcases h with ⟨h1, ⟨j, hj⟩, h3⟩ | ⟨lo, ⟨h1, _, h3, h4⟩, h5⟩
  · exact ⟨true, h1, Lib.hid ((meets_yes hj).symm.trans hr), h3⟩
  · refine ⟨false, h1, Lib.hid ((meets_no fun j => ?_).symm.trans hr), h4⟩
    by_cases hj : j < lo
    · exact h3 j hj
    · rw [(h5 j (by omega)).1]; rfl

theorem check_arg (A : List Sp) (aA : Option Addr) (nA cA : Nat) (w : World) (hA : Arg w aA nA cA A) : Calls Try.prog 79 #[.slice aA nA cA] w (Gives w (.bool (chkB A))) := by
  obtain ⟨rfl, zA, kA, mA, pA⟩ := hA
  exact check_any aA cA A w zA pA
end Go.Proofs.Ytihpojllalnmcaa
