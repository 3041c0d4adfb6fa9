/-
  DELTA: the page's example (splicelaw23.awake).
-/
import Derived.Test.YtnjlbgnojlmmlaaDlE
import Derived.Test.YtnjlbgnojlmmlaaDlV
namespace Go.Proofs.Ytnjlbgnojlmmlaa
open Go.RowKit Go.Deep Go.Shelf

def TruePost (w : World) (e : Ending) (w' : World) : Prop := e = .returned (.bool true) ∧ Below w.heap.size w w'
def exA : List Pr := [(1, 5), (4, 2)]
def exB : List Pr := [(1, 6), (9, 7)]
def exL : List Tn := [(1, (5, true), (6, true)), (4, (2, true), (0, false)), (9, (0, false), (7, true))]
theorem ex_meets : meetsPP exA exB = [⟨1, (1, 5), (1, 6), true, true⟩, ⟨4, (4, 2), (0, 0), true, false⟩, ⟨9, (0, 0), (9, 7), false, true⟩] := by
  have e1 : meetsPP [(1, 5), (4, 2)] [(1, 6), (9, 7)] = ⟨1, (1, 5), (1, 6), true, true⟩ :: meetsPP [(4, 2)] [(9, 7)] := meets_eq (α := Pr) (β := Pr) (·.1) (·.1) (0, 0) (0, 0) (x := (1, 5)) (y := (1, 6)) [(4, 2)] [(9, 7)] rfl
  have e2 : meetsPP [(4, 2)] [(9, 7)] = ⟨4, (4, 2), (0, 0), true, false⟩ :: meetsPP [] [(9, 7)] := meets_lt (α := Pr) (β := Pr) (·.1) (·.1) (0, 0) (0, 0) (x := (4, 2)) (y := (9, 7)) [] [] (by decide)
  have e3 : meetsPP [] [(9, 7)] = ⟨9, (0, 0), (9, 7), false, true⟩ :: meetsPP [] [] := meets_b (α := Pr) (β := Pr) (·.1) (·.1) (0, 0) (0, 0) (9, 7) []
  have e4 : meetsPP [] [] = [] := meets_nil (α := Pr) (β := Pr) (·.1) (·.1) (0, 0) (0, 0)
  unfold exA exB
  rw [e1, e2, e3, e4]
theorem ex_betw : betw exA exB = (exL, 0) := by
  unfold betw
  rw [ex_meets]
  rfl
theorem numS_small {n : Nat} (h : n < 128) : bl (numS (n : Int)) = [UInt8.ofNat n] := by
  unfold numS bl
  rw [if_neg (by omega)]
  simp [numL_lo h]
theorem ex_text : textD exL = [3, 1, 3, 10, 2, 2, 1, 4, 4, 2, 14] := by
  have n1 := numS_small (n := 1) (by decide)
  have n2 := numS_small (n := 2) (by decide)
  have n3 := numS_small (n := 3) (by decide)
  have n4 := numS_small (n := 4) (by decide)
  have n10 := numS_small (n := 10) (by decide)
  have n14 := numS_small (n := 14) (by decide)
  have w5 : bl (wholeS 5) = [10] := n10
  have w1 : bl (wholeS 1) = [2] := n2
  have w2 : bl (wholeS 2) = [4] := n4
  have w7 : bl (wholeS 7) = [14] := n14
  show bl (numS 3) ++ ((bl (numS 1) ++ bl (numS 3) ++ bl (wholeS 5) ++ bl (wholeS 1)) ++ ((bl (numS 2) ++ bl (numS 1) ++ bl (wholeS 2) ++ []) ++ ((bl (numS 4) ++ bl (numS 2) ++ [] ++ bl (wholeS 7)) ++ []))) = _
  rw [w5, w1, w2, w7, show bl (numS 1) = [1] from n1, show bl (numS 2) = [2] from n2, show bl (numS 3) = [3] from n3, show bl (numS 4) = [4] from n4]
  rfl
theorem arg2 {w W : World} {g : Nat} {p q : Pr} (hx : w.heap[g]? = some (.cells #[.int .i64 p.1, .int .i64 p.2, .int .i64 q.1, .int .i64 q.2] 39)) (hb : Below w.heap.size w W) : RArg encP 2 W (some ⟨g, 0, none⟩) 2 2 [p, q] := by
  have hg := (Array.getElem?_eq_some_iff.1 hx).1
  have hy := (hb.block g hg).trans hx
  refine ⟨rfl, by simp, by simp, by decide, fun j hj => ⟨g, 0, rfl, Nat.lt_of_lt_of_le hg hb.size, fun i v hi => ?_⟩⟩
  have hj2 : j = 0 ∨ j = 1 := by simp at hj; omega
  rcases hj2 with rfl | rfl
  · match i, hi with
    | 0, hi => cases hi; exact cell_of_row _ _ 0 _ _ _ hy
    | 1, hi => cases hi; exact cell_of_row _ _ 1 _ _ _ hy
    | i + 2, hi => simp [encP] at hi
  · match i, hi with
    | 0, hi => cases hi; exact cell_of_row _ _ 2 _ _ _ hy
    | 1, hi => cases hi; exact cell_of_row _ _ 3 _ _ _ hy
    | i + 2, hi => simp [encP] at hi
set_option maxRecDepth 100000 in
set_option maxHeartbeats 2000000 in
theorem awake23_any (w : World) : Calls Try.prog 5 #[] w (TruePost w) := by
  obtain ⟨W1, hW1⟩ : ∃ W1, w.alloc (.cells #[.int .i64 1, .int .i64 5, .int .i64 4, .int .i64 2] 39) = W1 := ⟨_, rfl⟩
  have B1 : Below w.heap.size w W1 := by rw [← hW1]; exact (Below.refl _ _).alloc (Nat.le_refl _) _
  have x1 : W1.heap[w.heap.size]? = some (.cells #[.int .i64 1, .int .i64 5, .int .i64 4, .int .i64 2] 39) := by rw [← hW1]; exact heap_alloc_new _ _
  obtain ⟨W2, hW2⟩ : ∃ W2, W1.alloc (.cells #[.int .i64 1, .int .i64 6, .int .i64 9, .int .i64 7] 39) = W2 := ⟨_, rfl⟩
  have B2 : Below W1.heap.size W1 W2 := by rw [← hW2]; exact (Below.refl _ _).alloc (Nat.le_refl _) _
  have x2 : W2.heap[W1.heap.size]? = some (.cells #[.int .i64 1, .int .i64 6, .int .i64 9, .int .i64 7] 39) := by rw [← hW2]; exact heap_alloc_new _ _
  have CB := between_any (some ⟨w.heap.size, 0, none⟩) (some ⟨W1.heap.size, 0, none⟩) 2 2 2 2 exA exB W2 (arg2 (p := (1, 5)) (q := (4, 2)) x1 B2) (arg2 (p := (1, 6)) (q := (9, 7)) x2 (Below.refl _ _)) (by decide) (by decide)
  rw [ex_betw] at CB
  have BB := below_next B1 B2
  replace CB := Lib.hid CB
  clear x1 x2 B1 B2
  go_enter Try.func5, Try.ntmps5
  go_wp2_with (first
    | (go_at_call 12; (with_reducible refine CB.out.mono ?_); rintro e w3 ⟨v, rfl, hO, b3⟩; obtain ⟨va, vc, rfl, hR⟩ := OwnsR.arg encT_len hO)
    | (go_at_call 8; (with_reducible refine (dtext_any _ _ _ _ _ hR (by decide)).mono ?_); rw [ex_text]; rintro e w4 ⟨rfl, b4⟩))
  go_ret
  exact ⟨rfl, below_next (below_next BB b3) b4⟩
end Go.Proofs.Ytnjlbgnojlmmlaa
