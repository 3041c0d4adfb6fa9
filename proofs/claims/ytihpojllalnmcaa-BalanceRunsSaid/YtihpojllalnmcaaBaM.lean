/-
  CONTRACT: the page's example of balance.
-/
import Derived.Test.YtihpojllalnmcaaBaL
import Derived.Laws.StructEq
namespace Go.Proofs.Ytihpojllalnmcaa
open Go.RowKit Go.Shelf

theorem eqChg (a b c e f g : Int) (w : World) : (binOp .eql 33 (.agg #[.int .i64 a, .int .i64 b, .int .i64 c]) (.agg #[.int .i64 e, .int .i64 f, .int .i64 g])).run Try.prog w = .ok (.bool ((a == e && b == f) && c == g)) w := by
  have u3 := Try.underlying3
  have a3 := Try.isAgg3
  have z3 := Try.sizeOf3
  have hS : Try.prog.underlying 33 = some (.struct (Try.prog.fieldsOf 33)) := by kernel_rfl
  have hp : Try.prog.stoodInHeld 33 = false := by kernel_rfl
  rw [run_eql_struct, show (10000 : Nat) = 9999 + 1 from rfl, run_equalIn_agg w 9999 33 _ _ hS hp]
  simp only [Program.fieldsOf, Try.underlying33]
  go_simp
  by_cases h1 : a = e <;> by_cases h2 : b = f <;> by_cases h3 : c = g <;> simp [h1, h2, h3]
theorem first11 : firstC 1 1 = (1, 2, [(1, 0, 4096, 0)], 0) := by rfl
theorem sug_ex : sugC 1 2 [(1, 0, 4096, 0)] [(10, 6), (20, 5), (30, 4)] (9, 0, 0) 1 = ((1, 1, 11), true, 0) := by decide
theorem three_new (w : World) : Arg (w.alloc (.cells #[.int .i64 10, .int .i64 6, .int .i64 20, .int .i64 5, .int .i64 30, .int .i64 4] 68)) (some ⟨w.heap.size, 0, none⟩) 3 3 [(10, 6), (20, 5), (30, 4)] := by
  have h := heap_alloc_new w (.cells #[.int .i64 10, .int .i64 6, .int .i64 20, .int .i64 5, .int .i64 30, .int .i64 4] 68)
  refine ⟨rfl, by simp, by simp, by unfold maxLen; omega, fun j hj => ?_⟩
  have hj3 : j = 0 ∨ j = 1 ∨ j = 2 := by simp at hj; omega
  rcases hj3 with rfl | rfl | rfl
  · exact ⟨w.heap.size, 0, rfl, by simp, cell_of_row _ _ 0 _ _ _ h, cell_of_row _ _ 1 _ _ _ h⟩
  · exact ⟨w.heap.size, 0, rfl, by simp, cell_of_row _ _ 2 _ _ _ h, cell_of_row _ _ 3 _ _ _ h⟩
  · exact ⟨w.heap.size, 0, rfl, by simp, cell_of_row _ _ 4 _ _ _ h, cell_of_row _ _ 5 _ _ _ h⟩
set_option maxRecDepth 100000 in
set_option maxHeartbeats 2000000 in
theorem awake25_any (w : World) : Calls Try.prog 7 #[] w (TruePost w) := by
  have F1 := Lib.hid (first11 ▸ first_any 1 1 w)
  have SG := Lib.hid (fun W a c a2 (h : RArg encS 4 W a 1 c [(1, 0, 4096, 0)]) (hL : Arg W a2 3 3 [(10, 6), (20, 5), (30, 4)]) => (show Calls Try.prog 8 #[.agg #[.int .i64 1, .int .i64 2, .slice a 1 c], .slice a2 3 3, .agg #[.int .i64 9, .int .i64 0, .int .i64 0], .int .i64 1] W fun e w' => e = .returned (.tuple #[.agg #[.int .i64 1, .int .i64 1, .int .i64 11], .bool true, .int .i64 0]) ∧ Below W.heap.size W w' by
    have := suggest_any 1 2 a 1 c _ a2 3 3 _ 9 0 0 1 W h hL
    unfold SuggestPost at this
    rw [sug_ex] at this
    exact this))
  have EQ := fun w => eqChg 1 1 11 1 1 11 w
  rw [show (((1 : Int) == 1 && (1 : Int) == 1) && (11 : Int) == 11) = true from rfl] at EQ
  go_enter Try.func7, Try.ntmps7
  go_wp2_with (first | (go_at_call 20; (with_reducible refine F1.out.mono ?_); rintro e w1 ⟨a1, n1, c1, rfl, h1, b1, _⟩; dsimp only at h1 ⊢; obtain rfl : n1 = 1 := h1.1; (obtain ⟨W1, hW1⟩ : ∃ W1, w1.alloc (.cells #[.int .i64 1, .int .i64 2, .slice a1 1 c1] 24) = W1 := ⟨_, rfl⟩); (have b2 : Below w1.heap.size w1 W1 := by rw [← hW1]; exact (Below.refl _ _).alloc (Nat.le_refl _) _); (have r1 : W1.heap[w1.heap.size]? = some (.cells #[.int .i64 1, .int .i64 2, .slice a1 1 c1] 24) := by rw [← hW1]; exact heap_alloc_new _ _); obtain ⟨x0, x1, x2⟩ := (cells3B r1).1; clear r1; have HH := Lib.hid (h1.below b2); clear h1) | (go_at_call 8; (with_reducible refine (SG.out _ _ _ _ (HH.out.below ((Below.refl _ _).alloc (Nat.le_refl _) _)) (three_new _)).mono ?_); rintro e w3 ⟨rfl, hb3⟩; have hb4 := below_next b1 (below_next b2 (below_next ((Below.refl _ _).alloc (Nat.le_refl _) _) hb3)); (obtain ⟨W4, hW4⟩ : ∃ W4, w3.alloc (.cells #[.int .i64 1, .int .i64 1, .int .i64 11] 33) = W4 := ⟨_, rfl⟩); (have b34 : Below w3.heap.size w3 W4 := by rw [← hW4]; exact (Below.refl _ _).alloc (Nat.le_refl _) _); (have r4 : W4.heap[w3.heap.size]? = some (.cells #[.int .i64 1, .int .i64 1, .int .i64 11] 33) := by rw [← hW4]; exact heap_alloc_new _ _); obtain ⟨y0, y1, y2⟩ := (cells3B r4).1; have hb5 := below_next hb4 b34; clear r4) | fail)
  go_ret
  exact ⟨rfl, hb5⟩
end Go.Proofs.Ytihpojllalnmcaa
