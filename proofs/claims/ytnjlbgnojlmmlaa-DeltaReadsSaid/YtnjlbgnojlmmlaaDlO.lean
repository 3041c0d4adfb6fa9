/-
  DELTA: Then (written by wip/tools/mkDlO.py).
-/
import Derived.Test.YtnjlbgnojlmmlaaDlN
namespace Go.Proofs.Ytnjlbgnojlmmlaa
open Go.RowKit Go.Deep Go.Shelf
attribute [local go_sem] Oper.semAt_some

def wasT (x : Mt Tn Tn) : Cl := if x.inA then x.a.2.1 else x.b.2.1
def isTT (x : Mt Tn Tn) : Cl := if x.inA && !x.inB then x.a.2.2 else x.b.2.2
def thnX (x : Mt Tn Tn) : Bool := !(x.inA && x.inB && !decide (x.a.2.2 = x.b.2.1))
def stepN (l : List Tn) (x : Mt Tn Tn) : List Tn := turnS l x.key (wasT x) (isTT x)
def thnS (xs : List (Mt Tn Tn)) : List Tn := xs.foldl stepN []
theorem thnS_snoc (xs : List (Mt Tn Tn)) (x : Mt Tn Tn) : thnS (xs ++ [x]) = stepN (thnS xs) x := by simp [thnS]
theorem thnS_len (xs : List (Mt Tn Tn)) : (thnS xs).length ≤ xs.length := by
  have h : ∀ (ys : List (Mt Tn Tn)) (l : List Tn), (ys.foldl stepN l).length ≤ l.length + ys.length := by
    intro ys
    induction ys with
    | nil => intro l; simp
    | cons y ys ih =>
      intro l
      have h1 := ih (stepN l y)
      have h2 : (stepN l y).length ≤ l.length + 1 := by unfold stepN turnS; split <;> simp
      simp only [List.foldl_cons, List.length_cons]
      omega
  have := h xs []
  unfold thnS
  simpa using this
def thenP (l m : List Tn) : List Tn × Int := if chkB l && chkB m then (if (meetsTT l m).all thnX then (thnS (meetsTT l m), 0) else ([], 7)) else ([], 1)
/-- Two boxes of cells, made anew. -/
def TwoC (W : World) (p q : Nat) (c d : Cl) (w' : World) : Prop := Below W.heap.size W w' ∧ p ≠ q ∧ W.heap.size ≤ p ∧ W.heap.size ≤ q ∧ XB 44 w' p [.int .i64 c.1, .bool c.2] ∧ XB 44 w' q [.int .i64 d.1, .bool d.2]
theorem grownBy_setAt (w : World) (b i : Nat) (v : Value) : w.grownBy (w.setCell ⟨b, i, none⟩ v) (some b) :=
  ⟨rfl, rfl, rfl, by simp [World.setCell], fun k _ hk => heap_setCell_other w ⟨b, i, none⟩ k v (fun e => hk (by simp [e]))⟩
theorem twoC_ab (W : World) (c d : Cl) : TwoC W W.heap.size (W.heap.size + 1) c d (((W.alloc (.cells #[.int .i64 c.1, .bool c.2] 44)).alloc (.cells #[.int .i64 d.1, .bool d.2] 44)).drew) := by
  refine ⟨(((Below.refl _ _).alloc (Nat.le_refl _) _).alloc (by simp) _).drew, by omega, by omega, by omega, ?_, ?_⟩
  · exact XB.below (show XB 44 (W.alloc (.cells #[.int .i64 c.1, .bool c.2] 44)) W.heap.size [.int .i64 c.1, .bool c.2] from heap_alloc_new W _) ((Below.refl _ _).alloc (Nat.le_refl _) _).drew
  · have := heap_alloc_new (W.alloc (.cells #[.int .i64 c.1, .bool c.2] 44)) (.cells #[.int .i64 d.1, .bool d.2] 44)
    rwa [World.size_alloc] at this
theorem twoC_ba (W : World) (c d : Cl) : TwoC W (W.heap.size + 1) W.heap.size c d (((W.alloc (.cells #[.int .i64 d.1, .bool d.2] 44)).alloc (.cells #[.int .i64 c.1, .bool c.2] 44)).drew) := by
  obtain ⟨h1, h2, h3, h4, h5, h6⟩ := twoC_ab W d c
  exact ⟨h1, h2.symm, h4, h3, h6, h5⟩
end Go.Proofs.Ytnjlbgnojlmmlaa
