/-
  Shards compared; the statements' worked example of charts.
-/
import Derived.Test.YtcpcdinfagdlhaaChF
import Derived.Laws.StructEq
namespace Go.Proofs.Ytcpcdinfagdlhaa
open Go.RowKit Go.Shelf Go.ChangeShapes Go.WideShapes Go.Deep

def eqSB (s t : Sd) : Bool := s.1 == t.1 && (s.2.1 == t.2.1 && s.2.2.1 == t.2.2.1) && s.2.2.2 == t.2.2.2
theorem eqSB_iff (s t : Sd) : eqSB s t = true ↔ s = t := by
  obtain ⟨a, b, c, d⟩ := s
  obtain ⟨e, f, g, h⟩ := t
  unfold eqSB
  simp
  constructor
  · rintro ⟨⟨h1, h2, h3⟩, h4⟩; exact ⟨h1, h2, h3, h4⟩
  · rintro ⟨h1, h2, h3, h4⟩; exact ⟨⟨h1, h2, h3⟩, h4⟩
theorem eqSB_dec (s t : Sd) : eqSB s t = decide (s = t) := by
  rw [Bool.eq_iff_iff, eqSB_iff, decide_eq_true_iff]
theorem eqSpanD (n : Nat) (x y p q : Int) (w : World) : (Op.equalIn (n + 3) 33 (.agg #[.int .i64 x, .int .i64 y]) (.agg #[.int .i64 p, .int .i64 q])).run Try.prog w = .ok (x == p && y == q) w := by
  have u3 := Try.underlying3
  have a3 := Try.isAgg3
  have z3 := Try.sizeOf3
  have hS : Try.prog.underlying 33 = some (.struct (Try.prog.fieldsOf 33)) := by kernel_rfl
  have hp : Try.prog.stoodInHeld 33 = false := by kernel_rfl
  rw [run_equalIn_agg w (n + 2) 33 _ _ hS hp]
  simp only [Program.fieldsOf, Try.underlying33]
  go_simp
  by_cases h1 : x = p <;> by_cases h2 : y = q <;> simp [h1, h2]
theorem eqSdIn (s t : Sd) (w : World) : (Op.equalIn 10000 35 (.agg #[.int .i64 s.1, .int .i64 s.2.1, .int .i64 s.2.2.1, .int .i64 s.2.2.2]) (.agg #[.int .i64 t.1, .int .i64 t.2.1, .int .i64 t.2.2.1, .int .i64 t.2.2.2])).run Try.prog w = .ok (eqSB s t) w := by
  obtain ⟨a, b, c, d⟩ := s
  obtain ⟨e, f, g, h⟩ := t
  have u3 := Try.underlying3
  have a3 := Try.isAgg3
  have z3 := Try.sizeOf3
  have aS := Try.isAgg33
  have zS := Try.sizeOf33
  have hS : Try.prog.underlying 35 = some (.struct (Try.prog.fieldsOf 35)) := by kernel_rfl
  have hp : Try.prog.stoodInHeld 35 = false := by kernel_rfl
  rw [show (10000 : Nat) = 9999 + 1 from rfl, run_equalIn_agg w 9999 35 _ _ hS hp]
  simp only [Program.fieldsOf, Try.underlying35]
  have E := fun n x y p q w => eqSpanD n x y p q w
  go_simp
  unfold eqSB
  by_cases h1 : a = e <;> by_cases h2 : b = f <;> by_cases h3 : c = g <;> by_cases h4 : d = h <;> simp [h1, h2, h3, h4]
theorem eqSd (s t : Sd) (w : World) : (binOp .eql 35 (.agg #[.int .i64 s.1, .int .i64 s.2.1, .int .i64 s.2.2.1, .int .i64 s.2.2.2]) (.agg #[.int .i64 t.1, .int .i64 t.2.1, .int .i64 t.2.2.1, .int .i64 t.2.2.2])).run Try.prog w = .ok (.bool (eqSB s t)) w := by
  rw [run_eql_struct, eqSdIn]; rfl
theorem first22 : firstC 2 2 = (1, 3, [(1, 0, 2048, 0), (2, 2048, 4096, 1)], 0) := by rfl
theorem app_ex : appC 1 3 [(1, 0, 2048, 0), (2, 2048, 4096, 1)] 1 1 100 = ⟨2, 5, [(3, 0, 100, 0), (4, 100, 2048, 0), (2, 2048, 4096, 1)], [(1, 0, 2048, 0)], [(3, 0, 100, 0), (4, 100, 2048, 0)], 0⟩ := by rfl
set_option maxRecDepth 100000 in
set_option maxHeartbeats 2000000 in
theorem awake8_any (w : World) : Calls Try.prog 12 #[] w (TruePost w) := by
  have F1 := Lib.hid (first22 ▸ first_any 2 2 w)
  have AP := Lib.hid (fun W a n c (h : RArg encS 4 W a n c [(1, 0, 2048, 0), (2, 2048, 4096, 1)]) => app_ex ▸ capply_any 1 3 a n c [(1, 0, 2048, 0), (2, 2048, 4096, 1)] 1 1 100 W h)
  have EQ := fun w => eqSd (2, 2048, 4096, 1) (2, 2048, 4096, 1) w
  dsimp only at EQ
  rw [show eqSB (2, 2048, 4096, 1) (2, 2048, 4096, 1) = true from rfl] at EQ
  go_enter Try.func12, Try.ntmps12
  go_wp2_with (first | (go_at_call 53; (with_reducible refine F1.out.mono ?_); rintro e w1 ⟨a1, n1, c1, rfl, h1, b1, _⟩; dsimp only at h1 ⊢; obtain rfl : n1 = 2 := h1.1; obtain ⟨b9, o9, e9, hb9, x0, x1, x2, x3⟩ := h1.2.2.2.2.shard 1 (by simp); subst e9; obtain ⟨W1, hW1⟩ : ∃ W1, w1.alloc (.cells #[.int .i64 1, .int .i64 3, .slice (some ⟨b9, o9, none⟩) 2 c1] 24) = W1 := ⟨_, rfl⟩; have bA : Below w1.heap.size w1 W1 := (by rw [← hW1]; exact (Below.refl _ _).alloc (Nat.le_refl _) _); have gA : w1.heap.size < W1.heap.size := (by rw [← hW1]; simp); have kB : W1.cell? ⟨w1.heap.size, 0, none⟩ = some (.int .i64 1) := (by rw [← hW1]; exact cell_of_row _ _ 0 _ _ _ (heap_alloc_new _ _)); have kC : W1.cell? ⟨w1.heap.size, 1, none⟩ = some (.int .i64 3) := (by rw [← hW1]; exact cell_of_row _ _ 1 _ _ _ (heap_alloc_new _ _)); have kA : W1.cell? ⟨w1.heap.size, 2, none⟩ = some (.slice (some ⟨b9, o9, none⟩) 2 c1) := (by rw [← hW1]; exact cell_of_row _ _ 2 _ _ _ (heap_alloc_new _ _))) | (go_at_call 25; (with_reducible refine (AP.out _ _ _ _ (h1.below bA)).mono ?_); rintro e w2 ⟨a2, n2, c2, a3, n3, c3, a4, n4, c4, rfl, hL, hO, hF, b2, _⟩; dsimp only at hL hO hF ⊢; obtain rfl : n2 = 3 := hL.1; obtain rfl : n4 = 2 := hF.1; obtain ⟨b8, o8, e8, hb8, y0, _, _, _⟩ := hF.2.2.2.2.shard 1 (by simp); subst e8; obtain ⟨W2, hW2⟩ : ∃ W2, w2.alloc (.cells #[.int .i64 2, .int .i64 5, .slice a2 3 c2] 24) = W2 := ⟨_, rfl⟩; have bB : Below w2.heap.size w2 W2 := (by rw [← hW2]; exact (Below.refl _ _).alloc (Nat.le_refl _) _); have b12 := below_next b2 bB; have t0 : W2.cell? ⟨w1.heap.size, 2, none⟩ = some (.slice (some ⟨b9, o9, none⟩) 2 c1) := (b12.cell (p := ⟨w1.heap.size, 2, none⟩) gA).trans kA; have b02 := below_next bA b12; have u0 : W2.cell? ⟨b9, o9 + 4, none⟩ = some (.int .i64 2) := (b02.cell (p := ⟨b9, o9 + 4, none⟩) hb9).trans x0; have u1 : W2.cell? ⟨b9, o9 + 4 + 1, none⟩ = some (.int .i64 2048) := (b02.cell (p := ⟨b9, o9 + 4 + 1, none⟩) hb9).trans x1; have u2 : W2.cell? ⟨b9, o9 + 4 + 2, none⟩ = some (.int .i64 4096) := (b02.cell (p := ⟨b9, o9 + 4 + 2, none⟩) hb9).trans x2; have u3 : W2.cell? ⟨b9, o9 + 4 + 3, none⟩ = some (.int .i64 1) := (b02.cell (p := ⟨b9, o9 + 4 + 3, none⟩) hb9).trans x3; have s0 : W2.cell? ⟨w2.heap.size, 0, none⟩ = some (.int .i64 2) := (by rw [← hW2]; exact cell_of_row _ _ 0 _ _ _ (heap_alloc_new _ _)); have s2 : W2.cell? ⟨w2.heap.size, 2, none⟩ = some (.slice a2 3 c2) := (by rw [← hW2]; exact cell_of_row _ _ 2 _ _ _ (heap_alloc_new _ _)); have v0 : W2.cell? ⟨b8, o8 + 4, none⟩ = some (.int .i64 4) := (bB.cell (p := ⟨b8, o8 + 4, none⟩) hb8).trans y0; clear x0 x1 x2 x3 y0))
  go_ret
  exact ⟨rfl, below_next b1 b02⟩
end Go.Proofs.Ytcpcdinfagdlhaa
