/-
  DELTA: the document's Same of pairs, decided; DeltaThere's and DeltaChains' walks.
-/
import Derived.Test.YtnjlbgnojlmmlaaDlP
import Derived.Test.YtnjlbgnojlmmlaaDlS
namespace Go.Proofs.Ytnjlbgnojlmmlaa
open Go.RowKit Go.Deep Go.Shelf Go.ChangeShapes Go.WideShapes Go.ChangeAt

theorem pr_beq (p q : Pr) : (p.1 == q.1 && p.2 == q.2) = decide (p = q) := by
  obtain ⟨a, b⟩ := p
  obtain ⟨c, d⟩ := q
  by_cases h1 : a = c <;> by_cases h2 : b = d <;> simp [h1, h2]
theorem list_drop_ne {l m : List Pr} {k : Nat} (h : ¬ l[k]! = m[k]!) : ¬ l = m := fun e => by subst e; exact h rfl
end Go.Proofs.Ytnjlbgnojlmmlaa
