/-
  DELTA: the closure that 'both' answers, at api.Pair and api.Turn (written by wip/tools/mkDlD.py).
-/
import Derived.Test.YtnjlbgnojlmmlaaDlC
namespace Go.Proofs.Ytnjlbgnojlmmlaa
open Go.RowKit Go.Deep
attribute [local go_sem] Oper.semAt_some

abbrev encPT (x : Mt Pr Tn) : Array Value := #[Value.agg ([Value.int .i64 x.key] ++ encP x.a ++ encT x.b ++ [Value.bool x.inA, Value.bool x.inB]).toArray]
abbrev meetsPT (a : List Pr) (b : List Tn) : List (Mt Pr Tn) := meets (·.1) (·.1) ((0, 0) : Pr) ((0, (0, false), (0, false)) : Tn) a b
end Go.Proofs.Ytnjlbgnojlmmlaa
