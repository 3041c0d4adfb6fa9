/-
  DELTA: 'both' at pairs, turns and at turns, turns (written by wip/tools/mkDlK.py); Fits.
-/
import Derived.Test.YtnjlbgnojlmmlaaDlE
import Derived.Test.YtnjlbgnojlmmlaaDlU
import Derived.Test.YtnjlbgnojlmmlaaDlH
import Derived.Test.YtnjlbgnojlmmlaaDlI
namespace Go.Proofs.Ytnjlbgnojlmmlaa
open Go.RowKit Go.Deep Go.Shelf
attribute [local go_sem] Oper.semAt_some

theorem chkF_low : ∀ (l : List Tn) (e : Int), chkF e l = true → ∀ x ∈ l, x.1 < 4096
  | [], _, _, _, h => by cases h
  | p :: t, e, h, x, hx => by
    unfold chkF at h
    simp only [Bool.and_eq_true, decide_eq_true_iff] at h
    rcases List.mem_cons.1 hx with rfl | hx
    · exact h.1.1.1.1.2
    · exact chkF_low t _ h.2 x hx
def fitX (x : Mt Pr Tn) : Bool := !(x.inB && !decide (x.b.2.1 = (x.a.2, x.inA)))
def fitsB (a : List Pr) (l : List Tn) : Bool := tblB a && chkB l && (meetsPT a l).all fitX
end Go.Proofs.Ytnjlbgnojlmmlaa
