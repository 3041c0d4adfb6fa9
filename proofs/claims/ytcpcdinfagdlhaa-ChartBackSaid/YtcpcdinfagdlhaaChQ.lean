/-
  CHARTS: contract of the document's First.
-/
import Derived.Test.YtcpcdinfagdlhaaChP
namespace Go.Proofs.Ytcpcdinfagdlhaa
open Go.RowKit Go.Shelf Go.ChangeShapes Go.WideShapes Go.Deep

def RFirstPost (r : Int × Int × List Sd × Int) (w : World) (e : Ending) (w' : World) : Prop := ∃ a n c,
  e = .returned (.tuple #[.agg #[.int .i64 r.1, .int .i64 r.2.1, .slice a n c], .int .i64 r.2.2.2]) ∧ RArg encS 4 w' a n c r.2.2.1 ∧ Below w.heap.size w w'
theorem rf_ret {r : Int × Int × List Sd × Int} {x y z : Int} {L : List Sd} {v : Value} (h : r = (x, y, L, z)) : Ending.returned (.tuple #[.agg #[.int .i64 x, .int .i64 y, v], .int .i64 z]) = .returned (.tuple #[.agg #[.int .i64 r.1, .int .i64 r.2.1, v], .int .i64 r.2.2.2]) := by rw [h]
theorem rarg_own {t : TypeId} {W : World} {base n : Nat} {a : Option Addr} {c : Nat} {l : List Sd} (h : W.ownsRow base t 4 (.slice a n c) n (flatR encS l)) (hn : l.length = n) : RArg encS 4 W a n c l := by
  have hO : OwnsR encS 4 t W base (.slice a n c) l := by
    unfold OwnsR
    rw [hn]
    exact h
  obtain ⟨a', c', e, hr, _⟩ := hO.new hn
  cases e
  exact hr
end Go.Proofs.Ytcpcdinfagdlhaa
