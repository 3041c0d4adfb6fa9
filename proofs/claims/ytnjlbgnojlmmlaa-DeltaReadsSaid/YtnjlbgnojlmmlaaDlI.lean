/-
  DELTA: the closure that 'both' answers, at api.Turn and api.Turn (written by wip/tools/mkDlD.py).
-/
import Derived.Test.YtnjlbgnojlmmlaaDlC
namespace Go.Proofs.Ytnjlbgnojlmmlaa
open Go.RowKit Go.Deep
attribute [local go_sem] Oper.semAt_some

abbrev encTT (x : Mt Tn Tn) : Array Value := #[Value.agg ([Value.int .i64 x.key] ++ encT x.a ++ encT x.b ++ [Value.bool x.inA, Value.bool x.inB]).toArray]
abbrev meetsTT (a : List Tn) (b : List Tn) : List (Mt Tn Tn) := meets (·.1) (·.1) ((0, (0, false), (0, false)) : Tn) ((0, (0, false), (0, false)) : Tn) a b
end Go.Proofs.Ytnjlbgnojlmmlaa
