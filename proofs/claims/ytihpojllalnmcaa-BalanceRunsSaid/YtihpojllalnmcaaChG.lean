/-
  Shards compared; the statements' worked example of charts.
-/
import Derived.Test.YtihpojllalnmcaaChF
import Derived.Laws.StructEq
namespace Go.Proofs.Ytihpojllalnmcaa
open Go.RowKit Go.Shelf Go.ChangeShapes Go.WideShapes Go.Deep

def eqSB (s t : Sd) : Bool := s.1 == t.1 && (s.2.1 == t.2.1 && s.2.2.1 == t.2.2.1) && s.2.2.2 == t.2.2.2
theorem eqSB_iff (s t : Sd) : eqSB s t = true ↔ s = t := by
  obtain ⟨a, b, c, d⟩ := s
  obtain ⟨e, f, g, h⟩ := t
  unfold eqSB
  simp
  constructor
  · rintro ⟨⟨h1, h2, h3⟩, h4⟩; exact ⟨h1, h2, h3, h4⟩
  · rintro ⟨h1, h2, h3, h4⟩; exact ⟨⟨h1, h2, h3⟩, h4⟩
theorem eqSB_dec (s t : Sd) : eqSB s t = decide (s = t) := by
  rw [Bool.eq_iff_iff, eqSB_iff, decide_eq_true_iff]
theorem eqSpanD (n : Nat) (x y p q : Int) (w : World) : (Op.equalIn (n + 3) 59 (.agg #[.int .i64 x, .int .i64 y]) (.agg #[.int .i64 p, .int .i64 q])).run Try.prog w = .ok (x == p && y == q) w := by
  have u3 := Try.underlying3
  have a3 := Try.isAgg3
  have z3 := Try.sizeOf3
  have hS : Try.prog.underlying 59 = some (.struct (Try.prog.fieldsOf 59)) := by kernel_rfl
  have hp : Try.prog.stoodInHeld 59 = false := by kernel_rfl
  rw [run_equalIn_agg w (n + 2) 59 _ _ hS hp]
  simp only [Program.fieldsOf, Try.underlying59]
  go_simp
  by_cases h1 : x = p <;> by_cases h2 : y = q <;> simp [h1, h2]
theorem eqSdIn (s t : Sd) (w : World) : (Op.equalIn 10000 61 (.agg #[.int .i64 s.1, .int .i64 s.2.1, .int .i64 s.2.2.1, .int .i64 s.2.2.2]) (.agg #[.int .i64 t.1, .int .i64 t.2.1, .int .i64 t.2.2.1, .int .i64 t.2.2.2])).run Try.prog w = .ok (eqSB s t) w := by
  obtain ⟨a, b, c, d⟩ := s
  obtain ⟨e, f, g, h⟩ := t
  have u3 := Try.underlying3
  have a3 := Try.isAgg3
  have z3 := Try.sizeOf3
  have aS := Try.isAgg59
  have zS := Try.sizeOf59
  have hS : Try.prog.underlying 61 = some (.struct (Try.prog.fieldsOf 61)) := by kernel_rfl
  have hp : Try.prog.stoodInHeld 61 = false := by kernel_rfl
  rw [show (10000 : Nat) = 9999 + 1 from rfl, run_equalIn_agg w 9999 61 _ _ hS hp]
  simp only [Program.fieldsOf, Try.underlying61]
  have E := fun n x y p q w => eqSpanD n x y p q w
  go_simp
  unfold eqSB
  by_cases h1 : a = e <;> by_cases h2 : b = f <;> by_cases h3 : c = g <;> by_cases h4 : d = h <;> simp [h1, h2, h3, h4]
theorem eqSd (s t : Sd) (w : World) : (binOp .eql 61 (.agg #[.int .i64 s.1, .int .i64 s.2.1, .int .i64 s.2.2.1, .int .i64 s.2.2.2]) (.agg #[.int .i64 t.1, .int .i64 t.2.1, .int .i64 t.2.2.1, .int .i64 t.2.2.2])).run Try.prog w = .ok (.bool (eqSB s t)) w := by
  rw [run_eql_struct, eqSdIn]; rfl
theorem first22 : firstC 2 2 = (1, 3, [(1, 0, 2048, 0), (2, 2048, 4096, 1)], 0) := by rfl
theorem app_ex : appC 1 3 [(1, 0, 2048, 0), (2, 2048, 4096, 1)] 1 1 100 = ⟨2, 5, [(3, 0, 100, 0), (4, 100, 2048, 0), (2, 2048, 4096, 1)], [(1, 0, 2048, 0)], [(3, 0, 100, 0), (4, 100, 2048, 0)], 0⟩ := by rfl
end Go.Proofs.Ytihpojllalnmcaa
