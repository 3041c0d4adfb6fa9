/-
  DELTA: Make (in work).
-/
import Derived.Test.YtnjlbgnojlmmlaaDlK
namespace Go.Proofs.Ytnjlbgnojlmmlaa
open Go.RowKit Go.Deep Go.Shelf
attribute [local go_sem] Oper.semAt_some

theorem Try.infoPair : (Try.prog.info? 39).map (fun i => (i.zero, i.size, i.bytes)) = some (some (.agg #[.int .i64 0, .int .i64 0]), 2, 16) := by kernel_rfl
theorem cells_two (w : World) (x0 x1 : Value) (t : TypeId) (s : Nat) (hs : s = w.heap.size) : ∀ j u, [x0, x1][j]? = some u → (w.alloc (.cells #[x0, x1] t)).cell? ((⟨s, 0, none⟩ : Addr).add j) = some u := by
  subst hs
  intro j u hj
  have h := heap_alloc_new w (.cells #[x0, x1] t)
  rw [addr_add, Nat.zero_add]
  match j, hj with
  | 0, hj => cases hj; exact cell_of_row _ _ 0 _ _ _ h
  | 1, hj => cases hj; exact cell_of_row _ _ 1 _ _ _ h
  | j + 2, hj => simp at hj
theorem two_one (x y : Int) : ∀ v ∈ [Value.int .i64 x, .int .i64 y], v.oneCell' = true := by
  intro u hu; simp at hu; rcases hu with rfl | rfl <;> rfl
def isX (x : Mt Pr Tn) : Cl := if x.inB then x.b.2.2 else (x.a.2, x.inA)
def makX (l : List Pr) (x : Mt Pr Tn) : List Pr := if (isX x).2 then l ++ [(x.key, (isX x).1)] else l
def makS (xs : List (Mt Pr Tn)) : List Pr := xs.foldl makX []
theorem makS_snoc (xs : List (Mt Pr Tn)) (x : Mt Pr Tn) : makS (xs ++ [x]) = makX (makS xs) x := by simp [makS]
theorem makS_len (xs : List (Mt Pr Tn)) : (makS xs).length ≤ xs.length := by
  have h : ∀ (ys : List (Mt Pr Tn)) (l : List Pr), (ys.foldl makX l).length ≤ l.length + ys.length := by
    intro ys
    induction ys with
    | nil => intro l; simp
    | cons y ys ih =>
      intro l
      have h1 := ih (makX l y)
      have h2 : (makX l y).length ≤ l.length + 1 := by unfold makX; split <;> simp
      simp only [List.foldl_cons, List.length_cons]
      omega
  have := h xs []
  unfold makS
  simpa using this
def makP (a : List Pr) (b : List Tn) : List Pr × Int := if tblB a && chkB b then (if fitsB a b then (makS (meetsPT a b), 0) else ([], 4)) else ([], 1)
def MPost (w : World) (l : List Pr) (z : Int) (e : Ending) (w' : World) : Prop := ∃ v, e = .returned (.tuple #[v, .int .i64 z]) ∧ OwnsR encP 2 39 w' w.heap.size v l ∧ Below w.heap.size w w'
end Go.Proofs.Ytnjlbgnojlmmlaa
